/- The document's walk at a node: the walk of node. Conditions: a walk in memory, a state that is read. -/
import Derived.Test.YtkpjkglheegmgaaQn
import Derived.Test.YtkpjkglheegmgaaQo
namespace Go.Proofs.Ytkpjkglheegmgaa
open Go.RowKit
set_option linter.unusedSimpArgs false
set_option linter.unusedVariables false

theorem leq_dec (x y : Key) : (Op.bytesLess x.s.toList y.s.toList || x.s.toList == y.s.toList) = !decide (y < x) := by
  rw [less_dec]
  by_cases h : x = y
  · subst h
    have h1 : ¬ x < x := by grind
    simp [h1]
  · rw [beq_false_of_ne fun e => h (key_eq.1 e), Bool.or_false]
    by_cases h1 : x < y
    · have h2 : ¬ y < x := by grind
      rw [decide_eq_true h1, decide_eq_false h2]; rfl
    · have h2 : y < x := by grind
      rw [decide_eq_false h1, decide_eq_true h2]; rfl
theorem bd_lo {w0 W : World} {lv : Value} {lo : Bd} (h : BdV w0 lv lo) (hb : Below w0.heap.size w0 W) (k : Key) : ∃ (L : Bool) (Ab : Option Addr) (nl cb : Nat), (L = true ↔ Ge lo k) ∧ lv = .slice Ab nl cb ∧ ((nl = 0 ∧ L = true) ∨ (nl = 1 ∧ ∃ (ab : Addr) (lim : ByteArray), Ab = some ab ∧ W.cell? ab = some (.string lim) ∧ Op.bytesLess k.s.toList lim.toList = !L)) := by
  cases lo with
  | none =>
    obtain ⟨A, c, rfl⟩ := h
    exact ⟨true, A, 0, c, ⟨fun _ l e => (by cases e), fun _ => rfl⟩, rfl, .inl ⟨rfl, rfl⟩⟩
  | some l =>
    obtain ⟨ad, c, rfl, hc⟩ := h
    refine ⟨decide (l ≤ k), some ad, 1, c, ?_, rfl, .inr ⟨rfl, ad, l.s, rfl, cell_keep hc hb, ?_⟩⟩
    · rw [decide_eq_true_iff]
      exact ⟨fun h l' e => (by cases e; exact h), fun h => h l rfl⟩
    · rw [less_dec]
      by_cases hk : k < l
      · rw [decide_eq_true hk, decide_eq_false (by grind)]; rfl
      · rw [decide_eq_false hk, decide_eq_true (by grind)]; rfl
theorem bd_hi {w0 W : World} {lv : Value} {hi : Bd} (h : BdV w0 lv hi) (hb : Below w0.heap.size w0 W) (k : Key) : ∃ (L : Bool) (Ab : Option Addr) (nl cb : Nat), (L = true ↔ Bel k hi) ∧ lv = .slice Ab nl cb ∧ ((nl = 0 ∧ L = true) ∨ (nl = 1 ∧ ∃ (ab : Addr) (lim : ByteArray), Ab = some ab ∧ W.cell? ab = some (.string lim) ∧ Op.bytesLess k.s.toList lim.toList = L)) := by
  cases hi with
  | none =>
    obtain ⟨A, c, rfl⟩ := h
    exact ⟨true, A, 0, c, ⟨fun _ l e => (by cases e), fun _ => rfl⟩, rfl, .inl ⟨rfl, rfl⟩⟩
  | some l =>
    obtain ⟨ad, c, rfl, hc⟩ := h
    refine ⟨decide (k < l), some ad, 1, c, ?_, rfl, .inr ⟨rfl, ad, l.s, rfl, cell_keep hc hb, less_dec k l⟩⟩
    rw [decide_eq_true_iff]
    exact ⟨fun h l' e => (by cases e; exact h), fun h => h l rfl⟩
theorem cons_of {α : Type} {l : List α} {n : Nat} (h : l.length = n + 1) : ∃ x t, l = x :: t ∧ t.length = n := by
  cases l with
  | nil => simp at h
  | cons x t => exact ⟨x, t, rfl, by simpa using h⟩
theorem list55 {α : Type} {l0 : List α} (h0 : l0.length = 55) : ∃ x0 x1 x2 x3 x4 x5 x6 x7 x8 x9 x10 x11 x12 x13 x14 x15 x16 x17 x18 x19 x20 x21 x22 x23 x24 x25 x26 x27 x28 x29 x30 x31 x32 x33 x34 x35 x36 x37 x38 x39 x40 x41 x42 x43 x44 x45 x46 x47 x48 x49 x50 x51 x52 x53 x54, l0 = [x0, x1, x2, x3, x4, x5, x6, x7, x8, x9, x10, x11, x12, x13, x14, x15, x16, x17, x18, x19, x20, x21, x22, x23, x24, x25, x26, x27, x28, x29, x30, x31, x32, x33, x34, x35, x36, x37, x38, x39, x40, x41, x42, x43, x44, x45, x46, x47, x48, x49, x50, x51, x52, x53, x54] := by
  obtain ⟨x0, l1, e1, h1⟩ := cons_of h0
  obtain ⟨x1, l2, e2, h2⟩ := cons_of h1
  obtain ⟨x2, l3, e3, h3⟩ := cons_of h2
  obtain ⟨x3, l4, e4, h4⟩ := cons_of h3
  obtain ⟨x4, l5, e5, h5⟩ := cons_of h4
  obtain ⟨x5, l6, e6, h6⟩ := cons_of h5
  obtain ⟨x6, l7, e7, h7⟩ := cons_of h6
  obtain ⟨x7, l8, e8, h8⟩ := cons_of h7
  obtain ⟨x8, l9, e9, h9⟩ := cons_of h8
  obtain ⟨x9, l10, e10, h10⟩ := cons_of h9
  obtain ⟨x10, l11, e11, h11⟩ := cons_of h10
  obtain ⟨x11, l12, e12, h12⟩ := cons_of h11
  obtain ⟨x12, l13, e13, h13⟩ := cons_of h12
  obtain ⟨x13, l14, e14, h14⟩ := cons_of h13
  obtain ⟨x14, l15, e15, h15⟩ := cons_of h14
  obtain ⟨x15, l16, e16, h16⟩ := cons_of h15
  obtain ⟨x16, l17, e17, h17⟩ := cons_of h16
  obtain ⟨x17, l18, e18, h18⟩ := cons_of h17
  obtain ⟨x18, l19, e19, h19⟩ := cons_of h18
  obtain ⟨x19, l20, e20, h20⟩ := cons_of h19
  obtain ⟨x20, l21, e21, h21⟩ := cons_of h20
  obtain ⟨x21, l22, e22, h22⟩ := cons_of h21
  obtain ⟨x22, l23, e23, h23⟩ := cons_of h22
  obtain ⟨x23, l24, e24, h24⟩ := cons_of h23
  obtain ⟨x24, l25, e25, h25⟩ := cons_of h24
  obtain ⟨x25, l26, e26, h26⟩ := cons_of h25
  obtain ⟨x26, l27, e27, h27⟩ := cons_of h26
  obtain ⟨x27, l28, e28, h28⟩ := cons_of h27
  obtain ⟨x28, l29, e29, h29⟩ := cons_of h28
  obtain ⟨x29, l30, e30, h30⟩ := cons_of h29
  obtain ⟨x30, l31, e31, h31⟩ := cons_of h30
  obtain ⟨x31, l32, e32, h32⟩ := cons_of h31
  obtain ⟨x32, l33, e33, h33⟩ := cons_of h32
  obtain ⟨x33, l34, e34, h34⟩ := cons_of h33
  obtain ⟨x34, l35, e35, h35⟩ := cons_of h34
  obtain ⟨x35, l36, e36, h36⟩ := cons_of h35
  obtain ⟨x36, l37, e37, h37⟩ := cons_of h36
  obtain ⟨x37, l38, e38, h38⟩ := cons_of h37
  obtain ⟨x38, l39, e39, h39⟩ := cons_of h38
  obtain ⟨x39, l40, e40, h40⟩ := cons_of h39
  obtain ⟨x40, l41, e41, h41⟩ := cons_of h40
  obtain ⟨x41, l42, e42, h42⟩ := cons_of h41
  obtain ⟨x42, l43, e43, h43⟩ := cons_of h42
  obtain ⟨x43, l44, e44, h44⟩ := cons_of h43
  obtain ⟨x44, l45, e45, h45⟩ := cons_of h44
  obtain ⟨x45, l46, e46, h46⟩ := cons_of h45
  obtain ⟨x46, l47, e47, h47⟩ := cons_of h46
  obtain ⟨x47, l48, e48, h48⟩ := cons_of h47
  obtain ⟨x48, l49, e49, h49⟩ := cons_of h48
  obtain ⟨x49, l50, e50, h50⟩ := cons_of h49
  obtain ⟨x50, l51, e51, h51⟩ := cons_of h50
  obtain ⟨x51, l52, e52, h52⟩ := cons_of h51
  obtain ⟨x52, l53, e53, h53⟩ := cons_of h52
  obtain ⟨x53, l54, e54, h54⟩ := cons_of h53
  obtain ⟨x54, l55, e55, h55⟩ := cons_of h54
  have e := List.eq_nil_of_length_eq_zero h55
  exact ⟨x0, x1, x2, x3, x4, x5, x6, x7, x8, x9, x10, x11, x12, x13, x14, x15, x16, x17, x18, x19, x20, x21, x22, x23, x24, x25, x26, x27, x28, x29, x30, x31, x32, x33, x34, x35, x36, x37, x38, x39, x40, x41, x42, x43, x44, x45, x46, x47, x48, x49, x50, x51, x52, x53, x54, by rw [e1, e2, e3, e4, e5, e6, e7, e8, e9, e10, e11, e12, e13, e14, e15, e16, e17, e18, e19, e20, e21, e22, e23, e24, e25, e26, e27, e28, e29, e30, e31, e32, e33, e34, e35, e36, e37, e38, e39, e40, e41, e42, e43, e44, e45, e46, e47, e48, e49, e50, e51, e52, e53, e54, e55, e]⟩
set_option maxRecDepth 100000 in
set_option maxHeartbeats 8000000 in
theorem node_leaf (w0 w : World) (gw gm : Nat) (A : Option Addr) (n c : Nat) (root : Int) (M : List Nat) (vo : Value) (out : List Pr) (L : Nat) (k : Wk w w0.heap.size gw gm A n c root M vo out L false) (hB : Below w0.heap.size w0 w) (nodes : List Nd) (hS : RdS w0 A n nodes) (i : Nat) (hi : i < n) (hM : i ∉ M) (x : Nd) (hx : nodes[i]? = some x) (deep : Nat) (hd : 1 ≤ deep ∧ deep ≤ 1000000000000000) (hl : L ≤ 1000000000000000) (hout : out.length ≤ 2048) (lo hi' : Bd) (lv hv : Value) (hlv : BdV w0 lv lo) (hhv : BdV w0 hv hi') (hk0 : x.kids = []) (f : Nat) :
    Calls Try.prog 46 #[ptr gw, .int .i64 i, .int .i64 deep, lv, hv] w fun e w' => e = .returned (.tuple #[]) ∧ NdPost w w' w0.heap.size gw gm A n c root vo out deep (rd nodes (f + 1) lo hi' deep (i : Int) ⟨M, out.length, L⟩) := by
  have hRD : (LeafOk x deep out L false ∧ KeysOk deep lo hi' x x.ks.length → rd nodes (f + 1) lo hi' deep (i : Int) ⟨M, out.length, L⟩ = some (.mk x.ks x.vs [], ⟨i :: M, out.length + x.ks.length, deep⟩)) ∧ (¬ (LeafOk x deep out L false ∧ KeysOk deep lo hi' x x.ks.length) → rd nodes (f + 1) lo hi' deep (i : Int) ⟨M, out.length, L⟩ = none) := by
    have hkl : x.kids.isEmpty = true := by rw [hk0]; rfl
    rw [rd, if_pos (by omega), Int.toNat_natCast, hx]
    simp only
    rw [if_neg hM, hkl, if_pos rfl, keysOk_end]
    unfold Formed LeafOk rdLeaf
    rw [hkl, if_pos rfl]
    constructor
    · rintro ⟨⟨_, h1, h2, h3⟩, ⟨h4, h5⟩, h6⟩
      have hL : (if L = 0 then deep else L) = deep := by rcases h2 with h2 | h2 <;> simp [h2]
      rw [if_pos ⟨⟨h4, h5, h1⟩, h6⟩, if_pos ⟨by simpa using hL, by simpa using h3⟩]
      simp [hL]
    · intro hno
      by_cases hf : (least deep ≤ x.ks.length ∧ x.ks.length ≤ 4 ∧ x.vs.length = x.ks.length) ∧ Holds lo hi' x.ks
      · rw [if_pos hf, if_neg]
        rintro ⟨h1, h2⟩
        refine hno ⟨⟨rfl, hf.1.2.2, ?_, by simpa using h2⟩, ⟨hf.1.1, hf.1.2.1⟩, hf.2⟩
        simp only at h1
        by_cases h0 : L = 0
        · exact .inl h0
        · rw [if_neg h0] at h1; exact .inr h1
      · rw [if_neg hf]
  have hki : (x.kids.length : Int) = 0 := by rw [hk0]; rfl
  generalize rd nodes (f + 1) lo hi' deep (i : Int) ⟨M, out.length, L⟩ = R at *
  have HRD := Lib.hid hRD
  clear hRD hk0
  obtain ⟨ad, h, rfl, hX⟩ := hS.at_ i x hx
  have hX0 : RdX w0 (ad.add (i * 3)) x h := hX
  have hXB : ∀ W, Below w0.heap.size w0 W → RdX W (ad.add (i * 3)) x h := fun W hb => hX.below hb
  obtain ⟨x0, x1, x2, rk, rv, rc⟩ := hXB w hB
  have hX3 := hXB
  obtain ⟨m0, mf⟩ := k.metAt hi
  rw [decide_eq_false hM] at m0
  obtain ⟨c0, _, c2, _, _, c5, cf⟩ := k.cells
  have hgm := cell_lt m0
  have hgw := cell_lt c5
  have hii : (i : Int) < (n : Int) := by omega
  have k1 := k.setMet hi
  have kne := k.ne
  have hf1 : Fw gw gm vo w (w.setCell ⟨gm, i, none⟩ (.bool true)) := Fw.setM _
  have hb1 := k.fr hf1 hB.size
  obtain ⟨y0, y1, y2, _, _, _⟩ := hXB _ (hB.trans hb1)
  have c0' := k1.cells.1
  have HK := Lib.hid k
  have HB := Lib.hid hB
  have HX := Lib.hid hXB
  have HD := Lib.hid hd
  have HX0 := Lib.hid hX0
  clear hX hX0 hXB hX3 rk rv rc cf hB hS hd
  go_enter Try.func46, Try.ntmps46
  go_upto_region 3 with fail
  go_upto_region 4 with fail
  have hbA := below1 (w.setCell ⟨gm, i, none⟩ (.bool true)) (.cells #[.slice h.kA x.ks.length h.kc, .slice h.vA x.vs.length h.vc, .slice h.cA x.kids.length h.cc] 65)
  have hbx := heap_alloc_new (w.setCell ⟨gm, i, none⟩ (.bool true)) (.cells #[.slice h.kA x.ks.length h.kc, .slice h.vA x.vs.length h.vc, .slice h.cA x.kids.length h.cc] 65)
  have hsz : (w.setCell ⟨gm, i, none⟩ (.bool true)).heap.size = w.heap.size := by simp [World.setCell]
  rw [hsz] at hbx
  have hf2 : Fw gw gm vo w ((w.setCell ⟨gm, i, none⟩ (.bool true)).alloc (.cells #[.slice h.kA x.ks.length h.kc, .slice h.vA x.vs.length h.vc, .slice h.cA x.kids.length h.cc] 65)) := hf1.trans (Fw.of_below hbA) (fun b hb => .inl hb)
  have k2 := k1.below hbA
  have HBX := Lib.hid fun (W : World) hf => Wk.boxed (W := W) HK.out hbx (Nat.le_refl _) hf
  clear c0 c2 c5 m0 mf x0 x1 x2 y0 y1 y2 c0' k1 hf1 hb1 hbA hsz
  generalize (w.setCell ⟨gm, i, none⟩ (.bool true)).alloc (.cells #[.slice h.kA x.ks.length h.kc, .slice h.vA x.vs.length h.vc, .slice h.cA x.kids.length h.cc] 65) = W2 at *
  generalize hbxe : w.heap.size = bx at *
  have HK2 := Lib.hid (And.intro k2 hf2)
  have HBE := Lib.hid hbxe
  clear k2 hf2 hbxe
  have hfew : ∃ d1 : Bool, ((deep : Int) == 1) = d1 ∧ ((if d1 = true then 1 else 2 : Int) = (least deep : Nat)) := by
    refine ⟨_, rfl, ?_⟩
    by_cases h1 : deep = 1
    · subst h1; rfl
    · have : ((deep : Int) == 1) = false := by simp; omega
      rw [this]
      unfold least
      rw [if_neg h1]; rfl
  obtain ⟨d1, hd1, hfw⟩ := hfew
  have HFEW := Lib.hid hfw
  clear hfw
  go_upto_if 61 with fail
  clear hd1
  go_cut [11] (fun f wx => f = .int .i64 (least deep) ∧ wx = W2)
  case first =>
    cases d1 with
    | true =>
      have HL1 := Lib.hid (show (1 : Int) = (least deep : Nat) from HFEW.out)
      go_wp2
      go_meet
      exact ⟨by rw [HL1.out], rfl⟩
    | false =>
      have HL1 := Lib.hid (show (2 : Int) = (least deep : Nat) from HFEW.out)
      go_wp2
      go_meet
      exact ⟨by rw [HL1.out], rfl⟩
  case rest =>
    obtain ⟨rfl, rfl⟩ := hcut
    clear HFEW d1
    go_upto_region 7 with fail
    generalize wc = W2 at *
    go_cut [] (fun wx => ∃ b0, Wk wx w0.heap.size gw gm (some ad) n c root (i :: M) vo out L b0 ∧ Fw gw gm vo W2 wx ∧ (b0 = false ↔ KeysOk deep lo hi' x 0))
    case first =>
      obtain ⟨k2, hf2⟩ := HK2.out
      obtain ⟨t0, _, _, _⟩ := three_of (HBX.out W2 (Fw.of_below (Below.refl _ _)))
      obtain ⟨_, _, _, _, _, c5, cf⟩ := k2.cells
      have cf5 := cf 5
      have hway : x.ks.length < least deep ∨ (¬ x.ks.length < least deep ∧ 4 < x.ks.length) ∨ (¬ x.ks.length < least deep ∧ ¬ 4 < x.ks.length) := by omega
      clear k2 hf2 cf
      rcases hway with h1 | ⟨h1, h2⟩ | ⟨h1, h2⟩
      · have h1i : (x.ks.length : Int) < (least deep : Nat) := by omega
        have HNO := Lib.hid (show (true = false ↔ KeysOk deep lo hi' x 0) from ⟨fun e => (by cases e), fun e => by have := keysOk_zero.1 e; omega⟩)
        clear h1
        go_wp2
        go_meet
        exact ⟨true, HK2.out.1.setBad true, Fw.set _, HNO.out⟩
      · have h1i : ¬ (x.ks.length : Int) < (least deep : Nat) := by omega
        have h2i : (4 : Int) < (x.ks.length : Int) := by omega
        have HNO := Lib.hid (show (true = false ↔ KeysOk deep lo hi' x 0) from ⟨fun e => (by cases e), fun e => by have := keysOk_zero.1 e; omega⟩)
        clear h1 h2
        go_wp2
        go_meet
        exact ⟨true, HK2.out.1.setBad true, Fw.set _, HNO.out⟩
      · have h1i : ¬ (x.ks.length : Int) < (least deep : Nat) := by omega
        have h2i : ¬ (4 : Int) < (x.ks.length : Int) := by omega
        have HNO := Lib.hid (show KeysOk deep lo hi' x 0 from keysOk_zero.2 ⟨by omega, by omega⟩)
        clear h1 h2
        go_wp2
        go_meet
        exact ⟨false, HK2.out.1.setBad false, Fw.set _, ⟨fun _ => HNO.out, fun _ => rfl⟩⟩
    case rest =>
      have HC3 := Lib.hid hcut
      clear hcut
      go_wp2
      go_loopw [12] (fun iv wr => ∃ (j : Nat) (b : Bool), iv = .int .i64 j ∧ j ≤ x.ks.length ∧ Wk wr w0.heap.size gw gm (some ad) n c root (i :: M) vo out L b ∧ Fw gw gm vo W2 wr ∧ (b = false ↔ KeysOk deep lo hi' x j)) (fun iv _ => x.ks.length - (intOf iv).toNat)
      case atStart =>
        obtain ⟨b0, h1, h2, h3⟩ := HC3.out
        exact ⟨0, b0, rfl, by omega, h1, h2, h3⟩
      case round =>
        obtain ⟨j, b, rfl, hj, kj, hfj, hbj⟩ := hrel
        clear HC3
        obtain ⟨t0, t1, t2, _⟩ := three_of (HBX.out wr hfj)
        obtain ⟨_, _, _, _, _, c5, cf⟩ := kj.cells
        have cf5 := cf 5
        have hbw := hfj.below (B := w0.heap.size) (Nat.le_trans (Nat.le_trans HB.out.size HK2.out.2.size) (Nat.le_refl _)) HK.out.lw HK.out.lm (fun b hb => (own_in HK.out.own hb).1)
        have hbw0 : Below w0.heap.size w0 wr := (HB.out.trans (HK.out.fr HK2.out.2 HB.out.size)).trans hbw
        have HKJ := Lib.hid kj
        have HFJ := Lib.hid hfj
        have HBJ := Lib.hid hbj
        have HBW := Lib.hid hbw0
        clear kj hfj hbj cf hbw hbw0
        by_cases hlt : j < x.ks.length
        · have hlt' : (j : Int) < (x.ks.length : Int) := by omega
          go_upto_region 11 with fail
          obtain ⟨ak, hak, q0⟩ := (((HX.out wr HBW.out).k)).at_ (strs_at hlt)
          rw [hak] at t0
          have hwj : IntKind.i64.wrap ((j : Int) + 1) = (j : Int) + 1 := IntWalk.i64_in _ (by have := (HX.out wr HBW.out).k.mx; omega)
          have hdb : Below wr.heap.size wr wr.drew := (Below.refl _ _).drew
          have hLL1 : ∃ L1 : Bool, (L1 = true ↔ (0 < j → ∀ h2 : j - 1 < x.ks.length, x.ks[j - 1] < x.ks[j])) ∧ (0 < j → ∃ prev : ByteArray, wr.drew.cell? (ak.add (j - 1)) = some (.string prev) ∧ (Op.bytesLess x.ks[j].s.toList prev.toList || x.ks[j].s.toList == prev.toList) = !L1) ∧ (¬ 0 < j → L1 = true) := by
            by_cases h0 : 0 < j
            · have h2 : j - 1 < x.ks.length := by omega
              obtain ⟨ak', hak', q1⟩ := (((HX.out wr HBW.out).k)).at_ (strs_at h2)
              rw [hak] at hak'
              rw [← Option.some.inj hak'] at q1
              refine ⟨decide (x.ks[j - 1] < x.ks[j]), ?_, fun _ => ⟨_, cell_keep q1 hdb, leq_dec _ _⟩, fun h => absurd h0 h⟩
              rw [decide_eq_true_iff]
              exact ⟨fun h _ _ => h, fun h => h h0 h2⟩
            · exact ⟨true, ⟨fun _ h => absurd h h0, fun _ => rfl⟩, fun h => absurd h h0, fun _ => rfl⟩
          obtain ⟨L1, hL1, hp1, hn1⟩ := hLL1
          obtain ⟨L2, A2, n2, c2, hL2, rfl, hw2⟩ := bd_lo hlv (HBW.out.trans (hdb.mono HBW.out.size)) x.ks[j]
          obtain ⟨L3, A3, n3, c3, hL3, rfl, hw3⟩ := bd_hi hhv (HBW.out.trans (hdb.mono HBW.out.size)) x.ks[j]
          have HNEW := Lib.hid (show (((b || !L1) || !L2) || !L3) = false ↔ KeysOk deep lo hi' x (j + 1) by
            rw [keysOk_succ hlt, ← HBJ.out, ← hL1, ← hL2, ← hL3]
            cases b <;> cases L1 <;> cases L2 <;> cases L3 <;> simp)
          have HKD := Lib.hid (HKJ.out.below hdb)
          have HFD := Lib.hid (HFJ.out.trans (Fw.of_below hdb) (fun b hb => .inl hb))
          have t0 := cell_keep t0 hdb
          have q0 := cell_keep q0 hdb
          have c5 := cell_keep c5 hdb
          have hlj : ((j - 1 : Nat) : Int) < (x.ks.length : Int) := by omega
          have hwm : 0 < j → IntKind.i64.wrap ((j : Int) - 1) = ((j - 1 : Nat) : Int) := fun h => by rw [IntWalk.i64_in _ (by have := (HX.out wr HBW.out).k.mx; omega)]; omega
          clear hL1 hL2 hL3 HKJ HFJ HBJ t1 t2 hlv hhv hdb cf5
          generalize x.ks[j].s = s at *
          refine region_named 55 83 (by kernel_rfl) (by kernel_rfl) (by kernel_rfl) ?_
          intro OPS KK a0 HDS hK ha0
          have HSZ : a0.tmps.size = 217 := by rw [ha0]; rfl
          have z0 : a0.tmps[0]? = some (ptr gw) := by rw [ha0]; rfl
          have z3 : a0.tmps[3]? = some (.slice A2 n2 c2) := by rw [ha0]; rfl
          have z4 : a0.tmps[4]? = some (.slice A3 n3 c3) := by rw [ha0]; rfl
          have z10 : a0.tmps[10]? = some (.pointer (some ⟨bx, 0, none⟩)) := by rw [ha0]; rfl
          have z12 : a0.tmps[12]? = some (.int .i64 j) := by rw [ha0]; rfl
          have HA0 := Lib.hid ha0
          have HKK := Lib.hid hK
          clear ha0 hK
          generalize wr.drew = wd at *
          simp only [List.take_succ_cons, List.take_zero, List.drop_succ_cons, List.drop_zero]
          refine still_cut 24 (fun a => Kp 83 138 a0 a ∧ a.tmps[106]? = some (.bool (b || !L1)) ∧ a.tmps[83]? = some (ptr gw)) ?p1 ?_
          case p1 =>
            simp only [List.take_succ_cons, List.take_zero, List.drop_succ_cons, List.drop_zero]
            refine (show ∀ a, Kp 83 138 a0 a → wpStill Try.prog OPS wd _ _ a from ?_) a0 (Kp.refl _ _ _)
            intro a kp
            clear hw2 hw3 hak HA0 HKK HKD HFD HNEW HBW
            cases b with
            | true =>
              refine st_val (d := 83) (v := (ptr gw)) (wanted_none rfl) rfl (by have e0 := eval_at ((kp.keep 0 (by decide)).trans z0); have ec : ∀ v, a.eval (.const v) = v := fun _ => rfl; generalize a.eval = ev at *; clear kp HDS; go_simp; try with_reducible rfl) (by rw [kp.size, HSZ]; decide) (fun a on s83 => ?_)
              replace kp := kp.only on (by decide)
              clear on
              refine st_val (d := 84) (v := (ptr gw)) (wanted_none rfl) rfl (by have e0 := eval_at ((kp.keep 0 (by decide)).trans z0); have ec : ∀ v, a.eval (.const v) = v := fun _ => rfl; generalize a.eval = ev at *; clear kp HDS; go_simp; try with_reducible rfl) (by rw [kp.size, HSZ]; decide) (fun a on s84 => ?_)
              replace kp := kp.only on (by decide)
              replace s83 := on.keep _ _ s83 (by decide)
              clear on
              refine st_val (d := 85) (v := (ptr gw)) (wanted_none rfl) rfl (by have e84 := eval_at s84; have ec : ∀ v, a.eval (.const v) = v := fun _ => rfl; generalize a.eval = ev at *; clear kp HDS; go_simp; try with_reducible rfl) (by rw [kp.size, HSZ]; decide) (fun a on s85 => ?_)
              replace kp := kp.only on (by decide)
              replace s83 := on.keep _ _ s83 (by decide)
              clear on s84
              refine st_val (d := 86) (v := (.pointer (some ⟨gw, 5, none⟩))) (wanted_none rfl) rfl (by have e85 := eval_at s85; have ec : ∀ v, a.eval (.const v) = v := fun _ => rfl; generalize a.eval = ev at *; clear kp HDS; go_simp; try with_reducible rfl) (by rw [kp.size, HSZ]; decide) (fun a on s86 => ?_)
              replace kp := kp.only on (by decide)
              replace s83 := on.keep _ _ s83 (by decide)
              clear on s85
              refine st_val (d := 87) (v := (.bool true)) (wanted_none rfl) rfl (by have e86 := eval_at s86; have ec : ∀ v, a.eval (.const v) = v := fun _ => rfl; generalize a.eval = ev at *; clear kp HDS; go_simp; try with_reducible rfl) (by rw [kp.size, HSZ]; decide) (fun a on s87 => ?_)
              replace kp := kp.only on (by decide)
              replace s83 := on.keep _ _ s83 (by decide)
              clear on s86
              refine st_val (d := 88) (v := (.bool true)) (wanted_none rfl) rfl (by have e87 := eval_at s87; have ec : ∀ v, a.eval (.const v) = v := fun _ => rfl; generalize a.eval = ev at *; clear kp HDS; go_simp; try with_reducible rfl) (by rw [kp.size, HSZ]; decide) (fun a on s88 => ?_)
              replace kp := kp.only on (by decide)
              replace s83 := on.keep _ _ s83 (by decide)
              clear on s87
              refine st_skip (d := 89) (wanted_off rfl (show (OPS[5]?).bind (·.dst) = some 88 from HDS 5 (by decide)) s88 (by decide)) rfl (by rw [kp.size, HSZ]; decide) (fun a on s89 => ?_)
              replace kp := kp.only on (by decide)
              replace s83 := on.keep _ _ s83 (by decide)
              replace s88 := on.keep _ _ s88 (by decide)
              clear on
              clear s89
              refine st_skip (d := 90) (wanted_off rfl (show (OPS[5]?).bind (·.dst) = some 88 from HDS 5 (by decide)) s88 (by decide)) rfl (by rw [kp.size, HSZ]; decide) (fun a on s90 => ?_)
              replace kp := kp.only on (by decide)
              replace s83 := on.keep _ _ s83 (by decide)
              replace s88 := on.keep _ _ s88 (by decide)
              clear on
              clear s90
              refine st_skip (d := 91) (wanted_off rfl (show (OPS[5]?).bind (·.dst) = some 88 from HDS 5 (by decide)) s88 (by decide)) rfl (by rw [kp.size, HSZ]; decide) (fun a on s91 => ?_)
              replace kp := kp.only on (by decide)
              replace s83 := on.keep _ _ s83 (by decide)
              replace s88 := on.keep _ _ s88 (by decide)
              clear on
              refine st_skip (d := 92) (wanted_undef rfl (show (OPS[8]?).bind (·.dst) = some 91 from HDS 8 (by decide)) s91) rfl (by rw [kp.size, HSZ]; decide) (fun a on s92 => ?_)
              replace kp := kp.only on (by decide)
              replace s83 := on.keep _ _ s83 (by decide)
              replace s88 := on.keep _ _ s88 (by decide)
              replace s91 := on.keep _ _ s91 (by decide)
              clear on
              clear s92
              refine st_skip (d := 93) (wanted_undef rfl (show (OPS[8]?).bind (·.dst) = some 91 from HDS 8 (by decide)) s91) rfl (by rw [kp.size, HSZ]; decide) (fun a on s93 => ?_)
              replace kp := kp.only on (by decide)
              replace s83 := on.keep _ _ s83 (by decide)
              replace s88 := on.keep _ _ s88 (by decide)
              replace s91 := on.keep _ _ s91 (by decide)
              clear on
              clear s93
              refine st_skip (d := 94) (wanted_undef rfl (show (OPS[8]?).bind (·.dst) = some 91 from HDS 8 (by decide)) s91) rfl (by rw [kp.size, HSZ]; decide) (fun a on s94 => ?_)
              replace kp := kp.only on (by decide)
              replace s83 := on.keep _ _ s83 (by decide)
              replace s88 := on.keep _ _ s88 (by decide)
              replace s91 := on.keep _ _ s91 (by decide)
              clear on
              clear s94
              refine st_skip (d := 95) (wanted_undef rfl (show (OPS[8]?).bind (·.dst) = some 91 from HDS 8 (by decide)) s91) rfl (by rw [kp.size, HSZ]; decide) (fun a on s95 => ?_)
              replace kp := kp.only on (by decide)
              replace s83 := on.keep _ _ s83 (by decide)
              replace s88 := on.keep _ _ s88 (by decide)
              replace s91 := on.keep _ _ s91 (by decide)
              clear on
              clear s95
              refine st_skip (d := 96) (wanted_undef rfl (show (OPS[8]?).bind (·.dst) = some 91 from HDS 8 (by decide)) s91) rfl (by rw [kp.size, HSZ]; decide) (fun a on s96 => ?_)
              replace kp := kp.only on (by decide)
              replace s83 := on.keep _ _ s83 (by decide)
              replace s88 := on.keep _ _ s88 (by decide)
              replace s91 := on.keep _ _ s91 (by decide)
              clear on
              clear s96
              refine st_skip (d := 97) (wanted_undef rfl (show (OPS[8]?).bind (·.dst) = some 91 from HDS 8 (by decide)) s91) rfl (by rw [kp.size, HSZ]; decide) (fun a on s97 => ?_)
              replace kp := kp.only on (by decide)
              replace s83 := on.keep _ _ s83 (by decide)
              replace s88 := on.keep _ _ s88 (by decide)
              replace s91 := on.keep _ _ s91 (by decide)
              clear on
              clear s97
              refine st_skip (d := 98) (wanted_undef rfl (show (OPS[8]?).bind (·.dst) = some 91 from HDS 8 (by decide)) s91) rfl (by rw [kp.size, HSZ]; decide) (fun a on s98 => ?_)
              replace kp := kp.only on (by decide)
              replace s83 := on.keep _ _ s83 (by decide)
              replace s88 := on.keep _ _ s88 (by decide)
              replace s91 := on.keep _ _ s91 (by decide)
              clear on
              clear s98
              refine st_skip (d := 99) (wanted_undef rfl (show (OPS[8]?).bind (·.dst) = some 91 from HDS 8 (by decide)) s91) rfl (by rw [kp.size, HSZ]; decide) (fun a on s99 => ?_)
              replace kp := kp.only on (by decide)
              replace s83 := on.keep _ _ s83 (by decide)
              replace s88 := on.keep _ _ s88 (by decide)
              replace s91 := on.keep _ _ s91 (by decide)
              clear on
              clear s99
              refine st_skip (d := 100) (wanted_undef rfl (show (OPS[8]?).bind (·.dst) = some 91 from HDS 8 (by decide)) s91) rfl (by rw [kp.size, HSZ]; decide) (fun a on s100 => ?_)
              replace kp := kp.only on (by decide)
              replace s83 := on.keep _ _ s83 (by decide)
              replace s88 := on.keep _ _ s88 (by decide)
              replace s91 := on.keep _ _ s91 (by decide)
              clear on
              clear s100
              refine st_skip (d := 101) (wanted_undef rfl (show (OPS[8]?).bind (·.dst) = some 91 from HDS 8 (by decide)) s91) rfl (by rw [kp.size, HSZ]; decide) (fun a on s101 => ?_)
              replace kp := kp.only on (by decide)
              replace s83 := on.keep _ _ s83 (by decide)
              replace s88 := on.keep _ _ s88 (by decide)
              replace s91 := on.keep _ _ s91 (by decide)
              clear on
              clear s101
              refine st_skip (d := 102) (wanted_undef rfl (show (OPS[8]?).bind (·.dst) = some 91 from HDS 8 (by decide)) s91) rfl (by rw [kp.size, HSZ]; decide) (fun a on s102 => ?_)
              replace kp := kp.only on (by decide)
              replace s83 := on.keep _ _ s83 (by decide)
              replace s88 := on.keep _ _ s88 (by decide)
              replace s91 := on.keep _ _ s91 (by decide)
              clear on
              clear s102
              refine st_skip (d := 103) (wanted_undef rfl (show (OPS[8]?).bind (·.dst) = some 91 from HDS 8 (by decide)) s91) rfl (by rw [kp.size, HSZ]; decide) (fun a on s103 => ?_)
              replace kp := kp.only on (by decide)
              replace s83 := on.keep _ _ s83 (by decide)
              replace s88 := on.keep _ _ s88 (by decide)
              replace s91 := on.keep _ _ s91 (by decide)
              clear on
              clear s103
              refine st_skip (d := 104) (wanted_off rfl (show (OPS[5]?).bind (·.dst) = some 88 from HDS 5 (by decide)) s88 (by decide)) rfl (by rw [kp.size, HSZ]; decide) (fun a on s104 => ?_)
              replace kp := kp.only on (by decide)
              replace s83 := on.keep _ _ s83 (by decide)
              replace s88 := on.keep _ _ s88 (by decide)
              clear on s91
              clear s104
              refine st_val (d := 105) (v := (.bool true)) (wanted_none rfl) rfl (by have e88 := eval_at s88; have ec : ∀ v, a.eval (.const v) = v := fun _ => rfl; generalize a.eval = ev at *; clear kp HDS; go_simp; try with_reducible rfl) (by rw [kp.size, HSZ]; decide) (fun a on s105 => ?_)
              replace kp := kp.only on (by decide)
              replace s83 := on.keep _ _ s83 (by decide)
              clear on s88
              refine st_val (d := 106) (v := (.bool true)) (wanted_none rfl) rfl (by have e105 := eval_at s105; have ec : ∀ v, a.eval (.const v) = v := fun _ => rfl; generalize a.eval = ev at *; clear kp HDS; go_simp; try with_reducible rfl) (by rw [kp.size, HSZ]; decide) (fun a on s106 => ?_)
              replace kp := kp.only on (by decide)
              replace s83 := on.keep _ _ s83 (by decide)
              clear on s105
              refine wpStill_nil ?_
              exact ⟨kp, s106, s83⟩
            | false =>
              by_cases h0 : 0 < j
              · obtain ⟨prev, q1, hb1⟩ := hp1 h0
                have h0i : (0 : Int) < (j : Int) := by omega
                have hwm := hwm h0
                clear hp1 hn1
                refine st_val (d := 83) (v := (ptr gw)) (wanted_none rfl) rfl (by have e0 := eval_at ((kp.keep 0 (by decide)).trans z0); have ec : ∀ v, a.eval (.const v) = v := fun _ => rfl; generalize a.eval = ev at *; clear kp HDS; go_simp; try with_reducible rfl) (by rw [kp.size, HSZ]; decide) (fun a on s83 => ?_)
                replace kp := kp.only on (by decide)
                clear on
                refine st_val (d := 84) (v := (ptr gw)) (wanted_none rfl) rfl (by have e0 := eval_at ((kp.keep 0 (by decide)).trans z0); have ec : ∀ v, a.eval (.const v) = v := fun _ => rfl; generalize a.eval = ev at *; clear kp HDS; go_simp; try with_reducible rfl) (by rw [kp.size, HSZ]; decide) (fun a on s84 => ?_)
                replace kp := kp.only on (by decide)
                replace s83 := on.keep _ _ s83 (by decide)
                clear on
                refine st_val (d := 85) (v := (ptr gw)) (wanted_none rfl) rfl (by have e84 := eval_at s84; have ec : ∀ v, a.eval (.const v) = v := fun _ => rfl; generalize a.eval = ev at *; clear kp HDS; go_simp; try with_reducible rfl) (by rw [kp.size, HSZ]; decide) (fun a on s85 => ?_)
                replace kp := kp.only on (by decide)
                replace s83 := on.keep _ _ s83 (by decide)
                clear on s84
                refine st_val (d := 86) (v := (.pointer (some ⟨gw, 5, none⟩))) (wanted_none rfl) rfl (by have e85 := eval_at s85; have ec : ∀ v, a.eval (.const v) = v := fun _ => rfl; generalize a.eval = ev at *; clear kp HDS; go_simp; try with_reducible rfl) (by rw [kp.size, HSZ]; decide) (fun a on s86 => ?_)
                replace kp := kp.only on (by decide)
                replace s83 := on.keep _ _ s83 (by decide)
                clear on s85
                refine st_val (d := 87) (v := (.bool false)) (wanted_none rfl) rfl (by have e86 := eval_at s86; have ec : ∀ v, a.eval (.const v) = v := fun _ => rfl; generalize a.eval = ev at *; clear kp HDS; go_simp; try with_reducible rfl) (by rw [kp.size, HSZ]; decide) (fun a on s87 => ?_)
                replace kp := kp.only on (by decide)
                replace s83 := on.keep _ _ s83 (by decide)
                clear on s86
                refine st_val (d := 88) (v := (.bool false)) (wanted_none rfl) rfl (by have e87 := eval_at s87; have ec : ∀ v, a.eval (.const v) = v := fun _ => rfl; generalize a.eval = ev at *; clear kp HDS; go_simp; try with_reducible rfl) (by rw [kp.size, HSZ]; decide) (fun a on s88 => ?_)
                replace kp := kp.only on (by decide)
                replace s83 := on.keep _ _ s83 (by decide)
                clear on s87
                refine st_val (d := 89) (v := (.int .i64 j)) (wanted_on rfl (show (OPS[5]?).bind (·.dst) = some 88 from HDS 5 (by decide)) s88) rfl (by have e12 := eval_at ((kp.keep 12 (by decide)).trans z12); have ec : ∀ v, a.eval (.const v) = v := fun _ => rfl; generalize a.eval = ev at *; clear kp HDS; go_simp; try with_reducible rfl) (by rw [kp.size, HSZ]; decide) (fun a on s89 => ?_)
                replace kp := kp.only on (by decide)
                replace s83 := on.keep _ _ s83 (by decide)
                replace s88 := on.keep _ _ s88 (by decide)
                clear on
                refine st_val (d := 90) (v := (.bool true)) (wanted_on rfl (show (OPS[5]?).bind (·.dst) = some 88 from HDS 5 (by decide)) s88) rfl (by have e89 := eval_at s89; have ec : ∀ v, a.eval (.const v) = v := fun _ => rfl; generalize a.eval = ev at *; clear kp HDS; go_simp; try with_reducible rfl) (by rw [kp.size, HSZ]; decide) (fun a on s90 => ?_)
                replace kp := kp.only on (by decide)
                replace s83 := on.keep _ _ s83 (by decide)
                replace s88 := on.keep _ _ s88 (by decide)
                clear on s89
                refine st_val (d := 91) (v := (.bool true)) (wanted_on rfl (show (OPS[5]?).bind (·.dst) = some 88 from HDS 5 (by decide)) s88) rfl (by have e90 := eval_at s90; have ec : ∀ v, a.eval (.const v) = v := fun _ => rfl; generalize a.eval = ev at *; clear kp HDS; go_simp; try with_reducible rfl) (by rw [kp.size, HSZ]; decide) (fun a on s91 => ?_)
                replace kp := kp.only on (by decide)
                replace s83 := on.keep _ _ s83 (by decide)
                replace s88 := on.keep _ _ s88 (by decide)
                clear on s90
                refine st_val (d := 92) (v := (.pointer (some ⟨bx, 0, none⟩))) (wanted_on rfl (show (OPS[8]?).bind (·.dst) = some 91 from HDS 8 (by decide)) s91) rfl (by have e10 := eval_at ((kp.keep 10 (by decide)).trans z10); have ec : ∀ v, a.eval (.const v) = v := fun _ => rfl; generalize a.eval = ev at *; clear kp HDS; go_simp; try with_reducible rfl) (by rw [kp.size, HSZ]; decide) (fun a on s92 => ?_)
                replace kp := kp.only on (by decide)
                replace s83 := on.keep _ _ s83 (by decide)
                replace s88 := on.keep _ _ s88 (by decide)
                replace s91 := on.keep _ _ s91 (by decide)
                clear on
                refine st_val (d := 93) (v := (.slice (some ak) x.ks.length h.kc)) (wanted_on rfl (show (OPS[8]?).bind (·.dst) = some 91 from HDS 8 (by decide)) s91) rfl (by have e92 := eval_at s92; have ec : ∀ v, a.eval (.const v) = v := fun _ => rfl; generalize a.eval = ev at *; clear kp HDS; go_simp; try with_reducible rfl) (by rw [kp.size, HSZ]; decide) (fun a on s93 => ?_)
                replace kp := kp.only on (by decide)
                replace s83 := on.keep _ _ s83 (by decide)
                replace s88 := on.keep _ _ s88 (by decide)
                replace s91 := on.keep _ _ s91 (by decide)
                clear on s92
                refine st_val (d := 94) (v := (.int .i64 j)) (wanted_on rfl (show (OPS[8]?).bind (·.dst) = some 91 from HDS 8 (by decide)) s91) rfl (by have e12 := eval_at ((kp.keep 12 (by decide)).trans z12); have ec : ∀ v, a.eval (.const v) = v := fun _ => rfl; generalize a.eval = ev at *; clear kp HDS; go_simp; try with_reducible rfl) (by rw [kp.size, HSZ]; decide) (fun a on s94 => ?_)
                replace kp := kp.only on (by decide)
                replace s83 := on.keep _ _ s83 (by decide)
                replace s88 := on.keep _ _ s88 (by decide)
                replace s91 := on.keep _ _ s91 (by decide)
                replace s93 := on.keep _ _ s93 (by decide)
                clear on
                refine st_val (d := 95) (v := (.pointer (some (ak.add j)))) (wanted_on rfl (show (OPS[8]?).bind (·.dst) = some 91 from HDS 8 (by decide)) s91) rfl (by have e93 := eval_at s93; have e94 := eval_at s94; have ec : ∀ v, a.eval (.const v) = v := fun _ => rfl; generalize a.eval = ev at *; clear kp HDS; go_simp; try with_reducible rfl) (by rw [kp.size, HSZ]; decide) (fun a on s95 => ?_)
                replace kp := kp.only on (by decide)
                replace s83 := on.keep _ _ s83 (by decide)
                replace s88 := on.keep _ _ s88 (by decide)
                replace s91 := on.keep _ _ s91 (by decide)
                clear on s93 s94
                refine st_val (d := 96) (v := (.string s)) (wanted_on rfl (show (OPS[8]?).bind (·.dst) = some 91 from HDS 8 (by decide)) s91) rfl (by have e95 := eval_at s95; have ec : ∀ v, a.eval (.const v) = v := fun _ => rfl; generalize a.eval = ev at *; clear kp HDS; go_simp; try with_reducible rfl) (by rw [kp.size, HSZ]; decide) (fun a on s96 => ?_)
                replace kp := kp.only on (by decide)
                replace s83 := on.keep _ _ s83 (by decide)
                replace s88 := on.keep _ _ s88 (by decide)
                replace s91 := on.keep _ _ s91 (by decide)
                clear on s95
                refine st_val (d := 97) (v := (.pointer (some ⟨bx, 0, none⟩))) (wanted_on rfl (show (OPS[8]?).bind (·.dst) = some 91 from HDS 8 (by decide)) s91) rfl (by have e10 := eval_at ((kp.keep 10 (by decide)).trans z10); have ec : ∀ v, a.eval (.const v) = v := fun _ => rfl; generalize a.eval = ev at *; clear kp HDS; go_simp; try with_reducible rfl) (by rw [kp.size, HSZ]; decide) (fun a on s97 => ?_)
                replace kp := kp.only on (by decide)
                replace s83 := on.keep _ _ s83 (by decide)
                replace s88 := on.keep _ _ s88 (by decide)
                replace s91 := on.keep _ _ s91 (by decide)
                replace s96 := on.keep _ _ s96 (by decide)
                clear on
                refine st_val (d := 98) (v := (.slice (some ak) x.ks.length h.kc)) (wanted_on rfl (show (OPS[8]?).bind (·.dst) = some 91 from HDS 8 (by decide)) s91) rfl (by have e97 := eval_at s97; have ec : ∀ v, a.eval (.const v) = v := fun _ => rfl; generalize a.eval = ev at *; clear kp HDS; go_simp; try with_reducible rfl) (by rw [kp.size, HSZ]; decide) (fun a on s98 => ?_)
                replace kp := kp.only on (by decide)
                replace s83 := on.keep _ _ s83 (by decide)
                replace s88 := on.keep _ _ s88 (by decide)
                replace s91 := on.keep _ _ s91 (by decide)
                replace s96 := on.keep _ _ s96 (by decide)
                clear on s97
                refine st_val (d := 99) (v := (.int .i64 j)) (wanted_on rfl (show (OPS[8]?).bind (·.dst) = some 91 from HDS 8 (by decide)) s91) rfl (by have e12 := eval_at ((kp.keep 12 (by decide)).trans z12); have ec : ∀ v, a.eval (.const v) = v := fun _ => rfl; generalize a.eval = ev at *; clear kp HDS; go_simp; try with_reducible rfl) (by rw [kp.size, HSZ]; decide) (fun a on s99 => ?_)
                replace kp := kp.only on (by decide)
                replace s83 := on.keep _ _ s83 (by decide)
                replace s88 := on.keep _ _ s88 (by decide)
                replace s91 := on.keep _ _ s91 (by decide)
                replace s96 := on.keep _ _ s96 (by decide)
                replace s98 := on.keep _ _ s98 (by decide)
                clear on
                refine st_val (d := 100) (v := (.int .i64 ((j - 1 : Nat) : Int))) (wanted_on rfl (show (OPS[8]?).bind (·.dst) = some 91 from HDS 8 (by decide)) s91) rfl (by have e99 := eval_at s99; have ec : ∀ v, a.eval (.const v) = v := fun _ => rfl; generalize a.eval = ev at *; clear kp HDS; go_simp; try with_reducible rfl) (by rw [kp.size, HSZ]; decide) (fun a on s100 => ?_)
                replace kp := kp.only on (by decide)
                replace s83 := on.keep _ _ s83 (by decide)
                replace s88 := on.keep _ _ s88 (by decide)
                replace s91 := on.keep _ _ s91 (by decide)
                replace s96 := on.keep _ _ s96 (by decide)
                replace s98 := on.keep _ _ s98 (by decide)
                clear on s99
                refine st_val (d := 101) (v := (.pointer (some (ak.add (j - 1))))) (wanted_on rfl (show (OPS[8]?).bind (·.dst) = some 91 from HDS 8 (by decide)) s91) rfl (by have e98 := eval_at s98; have e100 := eval_at s100; have ec : ∀ v, a.eval (.const v) = v := fun _ => rfl; generalize a.eval = ev at *; clear kp HDS; go_simp; try with_reducible rfl) (by rw [kp.size, HSZ]; decide) (fun a on s101 => ?_)
                replace kp := kp.only on (by decide)
                replace s83 := on.keep _ _ s83 (by decide)
                replace s88 := on.keep _ _ s88 (by decide)
                replace s91 := on.keep _ _ s91 (by decide)
                replace s96 := on.keep _ _ s96 (by decide)
                clear on s98 s100
                refine st_val (d := 102) (v := (.string prev)) (wanted_on rfl (show (OPS[8]?).bind (·.dst) = some 91 from HDS 8 (by decide)) s91) rfl (by have e101 := eval_at s101; have ec : ∀ v, a.eval (.const v) = v := fun _ => rfl; generalize a.eval = ev at *; clear kp HDS; go_simp; try with_reducible rfl) (by rw [kp.size, HSZ]; decide) (fun a on s102 => ?_)
                replace kp := kp.only on (by decide)
                replace s83 := on.keep _ _ s83 (by decide)
                replace s88 := on.keep _ _ s88 (by decide)
                replace s91 := on.keep _ _ s91 (by decide)
                replace s96 := on.keep _ _ s96 (by decide)
                clear on s101
                refine st_val (d := 103) (v := (.bool (!L1))) (wanted_on rfl (show (OPS[8]?).bind (·.dst) = some 91 from HDS 8 (by decide)) s91) rfl (by have e96 := eval_at s96; have e102 := eval_at s102; have ec : ∀ v, a.eval (.const v) = v := fun _ => rfl; generalize a.eval = ev at *; clear kp HDS; go_simp; try with_reducible rfl) (by rw [kp.size, HSZ]; decide) (fun a on s103 => ?_)
                replace kp := kp.only on (by decide)
                replace s83 := on.keep _ _ s83 (by decide)
                replace s88 := on.keep _ _ s88 (by decide)
                replace s91 := on.keep _ _ s91 (by decide)
                clear on s96 s102
                refine st_val (d := 104) (v := (.bool (!L1))) (wanted_on rfl (show (OPS[5]?).bind (·.dst) = some 88 from HDS 5 (by decide)) s88) rfl (by have e91 := eval_at s91; have e103 := eval_at s103; have ec : ∀ v, a.eval (.const v) = v := fun _ => rfl; generalize a.eval = ev at *; clear kp HDS; go_simp; try with_reducible rfl) (by rw [kp.size, HSZ]; decide) (fun a on s104 => ?_)
                replace kp := kp.only on (by decide)
                replace s83 := on.keep _ _ s83 (by decide)
                replace s88 := on.keep _ _ s88 (by decide)
                clear on s91 s103
                refine st_val (d := 105) (v := (.bool (!L1))) (wanted_none rfl) rfl (by have e88 := eval_at s88; have e104 := eval_at s104; have ec : ∀ v, a.eval (.const v) = v := fun _ => rfl; generalize a.eval = ev at *; clear kp HDS; go_simp; try with_reducible rfl) (by rw [kp.size, HSZ]; decide) (fun a on s105 => ?_)
                replace kp := kp.only on (by decide)
                replace s83 := on.keep _ _ s83 (by decide)
                clear on s88 s104
                refine st_val (d := 106) (v := (.bool (!L1))) (wanted_none rfl) rfl (by have e105 := eval_at s105; have ec : ∀ v, a.eval (.const v) = v := fun _ => rfl; generalize a.eval = ev at *; clear kp HDS; go_simp; try with_reducible rfl) (by rw [kp.size, HSZ]; decide) (fun a on s106 => ?_)
                replace kp := kp.only on (by decide)
                replace s83 := on.keep _ _ s83 (by decide)
                clear on s105
                refine wpStill_nil ?_
                exact ⟨kp, s106, s83⟩
              · have h0i : ¬ (0 : Int) < (j : Int) := by omega
                obtain rfl := hn1 h0
                clear hp1 hn1 hwm
                refine st_val (d := 83) (v := (ptr gw)) (wanted_none rfl) rfl (by have e0 := eval_at ((kp.keep 0 (by decide)).trans z0); have ec : ∀ v, a.eval (.const v) = v := fun _ => rfl; generalize a.eval = ev at *; clear kp HDS; go_simp; try with_reducible rfl) (by rw [kp.size, HSZ]; decide) (fun a on s83 => ?_)
                replace kp := kp.only on (by decide)
                clear on
                refine st_val (d := 84) (v := (ptr gw)) (wanted_none rfl) rfl (by have e0 := eval_at ((kp.keep 0 (by decide)).trans z0); have ec : ∀ v, a.eval (.const v) = v := fun _ => rfl; generalize a.eval = ev at *; clear kp HDS; go_simp; try with_reducible rfl) (by rw [kp.size, HSZ]; decide) (fun a on s84 => ?_)
                replace kp := kp.only on (by decide)
                replace s83 := on.keep _ _ s83 (by decide)
                clear on
                refine st_val (d := 85) (v := (ptr gw)) (wanted_none rfl) rfl (by have e84 := eval_at s84; have ec : ∀ v, a.eval (.const v) = v := fun _ => rfl; generalize a.eval = ev at *; clear kp HDS; go_simp; try with_reducible rfl) (by rw [kp.size, HSZ]; decide) (fun a on s85 => ?_)
                replace kp := kp.only on (by decide)
                replace s83 := on.keep _ _ s83 (by decide)
                clear on s84
                refine st_val (d := 86) (v := (.pointer (some ⟨gw, 5, none⟩))) (wanted_none rfl) rfl (by have e85 := eval_at s85; have ec : ∀ v, a.eval (.const v) = v := fun _ => rfl; generalize a.eval = ev at *; clear kp HDS; go_simp; try with_reducible rfl) (by rw [kp.size, HSZ]; decide) (fun a on s86 => ?_)
                replace kp := kp.only on (by decide)
                replace s83 := on.keep _ _ s83 (by decide)
                clear on s85
                refine st_val (d := 87) (v := (.bool false)) (wanted_none rfl) rfl (by have e86 := eval_at s86; have ec : ∀ v, a.eval (.const v) = v := fun _ => rfl; generalize a.eval = ev at *; clear kp HDS; go_simp; try with_reducible rfl) (by rw [kp.size, HSZ]; decide) (fun a on s87 => ?_)
                replace kp := kp.only on (by decide)
                replace s83 := on.keep _ _ s83 (by decide)
                clear on s86
                refine st_val (d := 88) (v := (.bool false)) (wanted_none rfl) rfl (by have e87 := eval_at s87; have ec : ∀ v, a.eval (.const v) = v := fun _ => rfl; generalize a.eval = ev at *; clear kp HDS; go_simp; try with_reducible rfl) (by rw [kp.size, HSZ]; decide) (fun a on s88 => ?_)
                replace kp := kp.only on (by decide)
                replace s83 := on.keep _ _ s83 (by decide)
                clear on s87
                refine st_val (d := 89) (v := (.int .i64 j)) (wanted_on rfl (show (OPS[5]?).bind (·.dst) = some 88 from HDS 5 (by decide)) s88) rfl (by have e12 := eval_at ((kp.keep 12 (by decide)).trans z12); have ec : ∀ v, a.eval (.const v) = v := fun _ => rfl; generalize a.eval = ev at *; clear kp HDS; go_simp; try with_reducible rfl) (by rw [kp.size, HSZ]; decide) (fun a on s89 => ?_)
                replace kp := kp.only on (by decide)
                replace s83 := on.keep _ _ s83 (by decide)
                replace s88 := on.keep _ _ s88 (by decide)
                clear on
                refine st_val (d := 90) (v := (.bool false)) (wanted_on rfl (show (OPS[5]?).bind (·.dst) = some 88 from HDS 5 (by decide)) s88) rfl (by have e89 := eval_at s89; have ec : ∀ v, a.eval (.const v) = v := fun _ => rfl; generalize a.eval = ev at *; clear kp HDS; go_simp; try with_reducible rfl) (by rw [kp.size, HSZ]; decide) (fun a on s90 => ?_)
                replace kp := kp.only on (by decide)
                replace s83 := on.keep _ _ s83 (by decide)
                replace s88 := on.keep _ _ s88 (by decide)
                clear on s89
                refine st_val (d := 91) (v := (.bool false)) (wanted_on rfl (show (OPS[5]?).bind (·.dst) = some 88 from HDS 5 (by decide)) s88) rfl (by have e90 := eval_at s90; have ec : ∀ v, a.eval (.const v) = v := fun _ => rfl; generalize a.eval = ev at *; clear kp HDS; go_simp; try with_reducible rfl) (by rw [kp.size, HSZ]; decide) (fun a on s91 => ?_)
                replace kp := kp.only on (by decide)
                replace s83 := on.keep _ _ s83 (by decide)
                replace s88 := on.keep _ _ s88 (by decide)
                clear on s90
                refine st_skip (d := 92) (wanted_off rfl (show (OPS[8]?).bind (·.dst) = some 91 from HDS 8 (by decide)) s91 (by decide)) rfl (by rw [kp.size, HSZ]; decide) (fun a on s92 => ?_)
                replace kp := kp.only on (by decide)
                replace s83 := on.keep _ _ s83 (by decide)
                replace s88 := on.keep _ _ s88 (by decide)
                replace s91 := on.keep _ _ s91 (by decide)
                clear on
                clear s92
                refine st_skip (d := 93) (wanted_off rfl (show (OPS[8]?).bind (·.dst) = some 91 from HDS 8 (by decide)) s91 (by decide)) rfl (by rw [kp.size, HSZ]; decide) (fun a on s93 => ?_)
                replace kp := kp.only on (by decide)
                replace s83 := on.keep _ _ s83 (by decide)
                replace s88 := on.keep _ _ s88 (by decide)
                replace s91 := on.keep _ _ s91 (by decide)
                clear on
                clear s93
                refine st_skip (d := 94) (wanted_off rfl (show (OPS[8]?).bind (·.dst) = some 91 from HDS 8 (by decide)) s91 (by decide)) rfl (by rw [kp.size, HSZ]; decide) (fun a on s94 => ?_)
                replace kp := kp.only on (by decide)
                replace s83 := on.keep _ _ s83 (by decide)
                replace s88 := on.keep _ _ s88 (by decide)
                replace s91 := on.keep _ _ s91 (by decide)
                clear on
                clear s94
                refine st_skip (d := 95) (wanted_off rfl (show (OPS[8]?).bind (·.dst) = some 91 from HDS 8 (by decide)) s91 (by decide)) rfl (by rw [kp.size, HSZ]; decide) (fun a on s95 => ?_)
                replace kp := kp.only on (by decide)
                replace s83 := on.keep _ _ s83 (by decide)
                replace s88 := on.keep _ _ s88 (by decide)
                replace s91 := on.keep _ _ s91 (by decide)
                clear on
                clear s95
                refine st_skip (d := 96) (wanted_off rfl (show (OPS[8]?).bind (·.dst) = some 91 from HDS 8 (by decide)) s91 (by decide)) rfl (by rw [kp.size, HSZ]; decide) (fun a on s96 => ?_)
                replace kp := kp.only on (by decide)
                replace s83 := on.keep _ _ s83 (by decide)
                replace s88 := on.keep _ _ s88 (by decide)
                replace s91 := on.keep _ _ s91 (by decide)
                clear on
                clear s96
                refine st_skip (d := 97) (wanted_off rfl (show (OPS[8]?).bind (·.dst) = some 91 from HDS 8 (by decide)) s91 (by decide)) rfl (by rw [kp.size, HSZ]; decide) (fun a on s97 => ?_)
                replace kp := kp.only on (by decide)
                replace s83 := on.keep _ _ s83 (by decide)
                replace s88 := on.keep _ _ s88 (by decide)
                replace s91 := on.keep _ _ s91 (by decide)
                clear on
                clear s97
                refine st_skip (d := 98) (wanted_off rfl (show (OPS[8]?).bind (·.dst) = some 91 from HDS 8 (by decide)) s91 (by decide)) rfl (by rw [kp.size, HSZ]; decide) (fun a on s98 => ?_)
                replace kp := kp.only on (by decide)
                replace s83 := on.keep _ _ s83 (by decide)
                replace s88 := on.keep _ _ s88 (by decide)
                replace s91 := on.keep _ _ s91 (by decide)
                clear on
                clear s98
                refine st_skip (d := 99) (wanted_off rfl (show (OPS[8]?).bind (·.dst) = some 91 from HDS 8 (by decide)) s91 (by decide)) rfl (by rw [kp.size, HSZ]; decide) (fun a on s99 => ?_)
                replace kp := kp.only on (by decide)
                replace s83 := on.keep _ _ s83 (by decide)
                replace s88 := on.keep _ _ s88 (by decide)
                replace s91 := on.keep _ _ s91 (by decide)
                clear on
                clear s99
                refine st_skip (d := 100) (wanted_off rfl (show (OPS[8]?).bind (·.dst) = some 91 from HDS 8 (by decide)) s91 (by decide)) rfl (by rw [kp.size, HSZ]; decide) (fun a on s100 => ?_)
                replace kp := kp.only on (by decide)
                replace s83 := on.keep _ _ s83 (by decide)
                replace s88 := on.keep _ _ s88 (by decide)
                replace s91 := on.keep _ _ s91 (by decide)
                clear on
                clear s100
                refine st_skip (d := 101) (wanted_off rfl (show (OPS[8]?).bind (·.dst) = some 91 from HDS 8 (by decide)) s91 (by decide)) rfl (by rw [kp.size, HSZ]; decide) (fun a on s101 => ?_)
                replace kp := kp.only on (by decide)
                replace s83 := on.keep _ _ s83 (by decide)
                replace s88 := on.keep _ _ s88 (by decide)
                replace s91 := on.keep _ _ s91 (by decide)
                clear on
                clear s101
                refine st_skip (d := 102) (wanted_off rfl (show (OPS[8]?).bind (·.dst) = some 91 from HDS 8 (by decide)) s91 (by decide)) rfl (by rw [kp.size, HSZ]; decide) (fun a on s102 => ?_)
                replace kp := kp.only on (by decide)
                replace s83 := on.keep _ _ s83 (by decide)
                replace s88 := on.keep _ _ s88 (by decide)
                replace s91 := on.keep _ _ s91 (by decide)
                clear on
                clear s102
                refine st_skip (d := 103) (wanted_off rfl (show (OPS[8]?).bind (·.dst) = some 91 from HDS 8 (by decide)) s91 (by decide)) rfl (by rw [kp.size, HSZ]; decide) (fun a on s103 => ?_)
                replace kp := kp.only on (by decide)
                replace s83 := on.keep _ _ s83 (by decide)
                replace s88 := on.keep _ _ s88 (by decide)
                replace s91 := on.keep _ _ s91 (by decide)
                clear on
                clear s103
                refine st_val (d := 104) (v := (.bool false)) (wanted_on rfl (show (OPS[5]?).bind (·.dst) = some 88 from HDS 5 (by decide)) s88) rfl (by have e91 := eval_at s91; have ec : ∀ v, a.eval (.const v) = v := fun _ => rfl; generalize a.eval = ev at *; clear kp HDS; go_simp; try with_reducible rfl) (by rw [kp.size, HSZ]; decide) (fun a on s104 => ?_)
                replace kp := kp.only on (by decide)
                replace s83 := on.keep _ _ s83 (by decide)
                replace s88 := on.keep _ _ s88 (by decide)
                clear on s91
                refine st_val (d := 105) (v := (.bool false)) (wanted_none rfl) rfl (by have e88 := eval_at s88; have e104 := eval_at s104; have ec : ∀ v, a.eval (.const v) = v := fun _ => rfl; generalize a.eval = ev at *; clear kp HDS; go_simp; try with_reducible rfl) (by rw [kp.size, HSZ]; decide) (fun a on s105 => ?_)
                replace kp := kp.only on (by decide)
                replace s83 := on.keep _ _ s83 (by decide)
                clear on s88 s104
                refine st_val (d := 106) (v := (.bool false)) (wanted_none rfl) rfl (by have e105 := eval_at s105; have ec : ∀ v, a.eval (.const v) = v := fun _ => rfl; generalize a.eval = ev at *; clear kp HDS; go_simp; try with_reducible rfl) (by rw [kp.size, HSZ]; decide) (fun a on s106 => ?_)
                replace kp := kp.only on (by decide)
                replace s83 := on.keep _ _ s83 (by decide)
                clear on s105
                refine wpStill_nil ?_
                exact ⟨kp, s106, s83⟩
          simp only [List.take_succ_cons, List.take_zero, List.drop_succ_cons, List.drop_zero]
          rintro a1 ⟨kp1, s106, s83⟩
          refine still_cut 16 (fun a => Kp 83 138 a0 a ∧ a.tmps[122]? = some (.bool ((b || !L1) || !L2)) ∧ a.tmps[83]? = some (ptr gw)) ?p2 ?_
          case p2 =>
            simp only [List.take_succ_cons, List.take_zero, List.drop_succ_cons, List.drop_zero]
            revert s106 s83 kp1
            generalize (b || !L1) = B1
            revert a1
            intro a kp s106 s83
            clear hw3 hak HA0 HKK HKD HFD HNEW HBW hp1 hn1 hwm
            cases B1 with
            | true =>
              refine st_skip (d := 107) (wanted_off rfl (show (OPS[23]?).bind (·.dst) = some 106 from HDS 23 (by decide)) s106 (by decide)) rfl (by rw [kp.size, HSZ]; decide) (fun a on s107 => ?_)
              replace kp := kp.only on (by decide)
              replace s106 := on.keep _ _ s106 (by decide)
              replace s83 := on.keep _ _ s83 (by decide)
              clear on
              clear s107
              refine st_skip (d := 108) (wanted_off rfl (show (OPS[23]?).bind (·.dst) = some 106 from HDS 23 (by decide)) s106 (by decide)) rfl (by rw [kp.size, HSZ]; decide) (fun a on s108 => ?_)
              replace kp := kp.only on (by decide)
              replace s106 := on.keep _ _ s106 (by decide)
              replace s83 := on.keep _ _ s83 (by decide)
              clear on
              clear s108
              refine st_skip (d := 109) (wanted_off rfl (show (OPS[23]?).bind (·.dst) = some 106 from HDS 23 (by decide)) s106 (by decide)) rfl (by rw [kp.size, HSZ]; decide) (fun a on s109 => ?_)
              replace kp := kp.only on (by decide)
              replace s106 := on.keep _ _ s106 (by decide)
              replace s83 := on.keep _ _ s83 (by decide)
              clear on
              clear s109
              refine st_skip (d := 110) (wanted_off rfl (show (OPS[23]?).bind (·.dst) = some 106 from HDS 23 (by decide)) s106 (by decide)) rfl (by rw [kp.size, HSZ]; decide) (fun a on s110 => ?_)
              replace kp := kp.only on (by decide)
              replace s106 := on.keep _ _ s106 (by decide)
              replace s83 := on.keep _ _ s83 (by decide)
              clear on
              refine st_skip (d := 111) (wanted_undef rfl (show (OPS[27]?).bind (·.dst) = some 110 from HDS 27 (by decide)) s110) rfl (by rw [kp.size, HSZ]; decide) (fun a on s111 => ?_)
              replace kp := kp.only on (by decide)
              replace s106 := on.keep _ _ s106 (by decide)
              replace s83 := on.keep _ _ s83 (by decide)
              replace s110 := on.keep _ _ s110 (by decide)
              clear on
              clear s111
              refine st_skip (d := 112) (wanted_undef rfl (show (OPS[27]?).bind (·.dst) = some 110 from HDS 27 (by decide)) s110) rfl (by rw [kp.size, HSZ]; decide) (fun a on s112 => ?_)
              replace kp := kp.only on (by decide)
              replace s106 := on.keep _ _ s106 (by decide)
              replace s83 := on.keep _ _ s83 (by decide)
              replace s110 := on.keep _ _ s110 (by decide)
              clear on
              clear s112
              refine st_skip (d := 113) (wanted_undef rfl (show (OPS[27]?).bind (·.dst) = some 110 from HDS 27 (by decide)) s110) rfl (by rw [kp.size, HSZ]; decide) (fun a on s113 => ?_)
              replace kp := kp.only on (by decide)
              replace s106 := on.keep _ _ s106 (by decide)
              replace s83 := on.keep _ _ s83 (by decide)
              replace s110 := on.keep _ _ s110 (by decide)
              clear on
              clear s113
              refine st_skip (d := 114) (wanted_undef rfl (show (OPS[27]?).bind (·.dst) = some 110 from HDS 27 (by decide)) s110) rfl (by rw [kp.size, HSZ]; decide) (fun a on s114 => ?_)
              replace kp := kp.only on (by decide)
              replace s106 := on.keep _ _ s106 (by decide)
              replace s83 := on.keep _ _ s83 (by decide)
              replace s110 := on.keep _ _ s110 (by decide)
              clear on
              clear s114
              refine st_skip (d := 115) (wanted_undef rfl (show (OPS[27]?).bind (·.dst) = some 110 from HDS 27 (by decide)) s110) rfl (by rw [kp.size, HSZ]; decide) (fun a on s115 => ?_)
              replace kp := kp.only on (by decide)
              replace s106 := on.keep _ _ s106 (by decide)
              replace s83 := on.keep _ _ s83 (by decide)
              replace s110 := on.keep _ _ s110 (by decide)
              clear on
              clear s115
              refine st_skip (d := 116) (wanted_undef rfl (show (OPS[27]?).bind (·.dst) = some 110 from HDS 27 (by decide)) s110) rfl (by rw [kp.size, HSZ]; decide) (fun a on s116 => ?_)
              replace kp := kp.only on (by decide)
              replace s106 := on.keep _ _ s106 (by decide)
              replace s83 := on.keep _ _ s83 (by decide)
              replace s110 := on.keep _ _ s110 (by decide)
              clear on
              clear s116
              refine st_skip (d := 117) (wanted_undef rfl (show (OPS[27]?).bind (·.dst) = some 110 from HDS 27 (by decide)) s110) rfl (by rw [kp.size, HSZ]; decide) (fun a on s117 => ?_)
              replace kp := kp.only on (by decide)
              replace s106 := on.keep _ _ s106 (by decide)
              replace s83 := on.keep _ _ s83 (by decide)
              replace s110 := on.keep _ _ s110 (by decide)
              clear on
              clear s117
              refine st_skip (d := 118) (wanted_undef rfl (show (OPS[27]?).bind (·.dst) = some 110 from HDS 27 (by decide)) s110) rfl (by rw [kp.size, HSZ]; decide) (fun a on s118 => ?_)
              replace kp := kp.only on (by decide)
              replace s106 := on.keep _ _ s106 (by decide)
              replace s83 := on.keep _ _ s83 (by decide)
              replace s110 := on.keep _ _ s110 (by decide)
              clear on
              clear s118
              refine st_skip (d := 119) (wanted_undef rfl (show (OPS[27]?).bind (·.dst) = some 110 from HDS 27 (by decide)) s110) rfl (by rw [kp.size, HSZ]; decide) (fun a on s119 => ?_)
              replace kp := kp.only on (by decide)
              replace s106 := on.keep _ _ s106 (by decide)
              replace s83 := on.keep _ _ s83 (by decide)
              replace s110 := on.keep _ _ s110 (by decide)
              clear on
              clear s119
              refine st_skip (d := 120) (wanted_off rfl (show (OPS[23]?).bind (·.dst) = some 106 from HDS 23 (by decide)) s106 (by decide)) rfl (by rw [kp.size, HSZ]; decide) (fun a on s120 => ?_)
              replace kp := kp.only on (by decide)
              replace s106 := on.keep _ _ s106 (by decide)
              replace s83 := on.keep _ _ s83 (by decide)
              clear on s110
              clear s120
              refine st_val (d := 121) (v := (.bool true)) (wanted_none rfl) rfl (by have e106 := eval_at s106; have ec : ∀ v, a.eval (.const v) = v := fun _ => rfl; generalize a.eval = ev at *; clear kp HDS; go_simp; try with_reducible rfl) (by rw [kp.size, HSZ]; decide) (fun a on s121 => ?_)
              replace kp := kp.only on (by decide)
              replace s83 := on.keep _ _ s83 (by decide)
              clear on s106
              refine st_val (d := 122) (v := (.bool true)) (wanted_none rfl) rfl (by have e121 := eval_at s121; have ec : ∀ v, a.eval (.const v) = v := fun _ => rfl; generalize a.eval = ev at *; clear kp HDS; go_simp; try with_reducible rfl) (by rw [kp.size, HSZ]; decide) (fun a on s122 => ?_)
              replace kp := kp.only on (by decide)
              replace s83 := on.keep _ _ s83 (by decide)
              clear on s121
              refine wpStill_nil ?_
              exact ⟨kp, s122, s83⟩
            | false =>
              rcases hw2 with ⟨rfl, rfl⟩ | ⟨rfl, ab, lim, rfl, q2, hb2⟩
              · refine st_val (d := 107) (v := (.slice A2 0 c2)) (wanted_on rfl (show (OPS[23]?).bind (·.dst) = some 106 from HDS 23 (by decide)) s106) rfl (by have e3 := eval_at ((kp.keep 3 (by decide)).trans z3); have ec : ∀ v, a.eval (.const v) = v := fun _ => rfl; generalize a.eval = ev at *; clear kp HDS; go_simp; try with_reducible rfl) (by rw [kp.size, HSZ]; decide) (fun a on s107 => ?_)
                replace kp := kp.only on (by decide)
                replace s106 := on.keep _ _ s106 (by decide)
                replace s83 := on.keep _ _ s83 (by decide)
                clear on
                refine st_val (d := 108) (v := (.int .i64 ((0 : Nat) : Int))) (wanted_on rfl (show (OPS[23]?).bind (·.dst) = some 106 from HDS 23 (by decide)) s106) rfl (by have e107 := eval_at s107; have ec : ∀ v, a.eval (.const v) = v := fun _ => rfl; generalize a.eval = ev at *; clear kp HDS; go_simp; try with_reducible rfl) (by rw [kp.size, HSZ]; decide) (fun a on s108 => ?_)
                replace kp := kp.only on (by decide)
                replace s106 := on.keep _ _ s106 (by decide)
                replace s83 := on.keep _ _ s83 (by decide)
                clear on s107
                refine st_val (d := 109) (v := (.bool false)) (wanted_on rfl (show (OPS[23]?).bind (·.dst) = some 106 from HDS 23 (by decide)) s106) rfl (by have e108 := eval_at s108; have ec : ∀ v, a.eval (.const v) = v := fun _ => rfl; generalize a.eval = ev at *; clear kp HDS; go_simp; try with_reducible rfl) (by rw [kp.size, HSZ]; decide) (fun a on s109 => ?_)
                replace kp := kp.only on (by decide)
                replace s106 := on.keep _ _ s106 (by decide)
                replace s83 := on.keep _ _ s83 (by decide)
                clear on s108
                refine st_val (d := 110) (v := (.bool false)) (wanted_on rfl (show (OPS[23]?).bind (·.dst) = some 106 from HDS 23 (by decide)) s106) rfl (by have e109 := eval_at s109; have ec : ∀ v, a.eval (.const v) = v := fun _ => rfl; generalize a.eval = ev at *; clear kp HDS; go_simp; try with_reducible rfl) (by rw [kp.size, HSZ]; decide) (fun a on s110 => ?_)
                replace kp := kp.only on (by decide)
                replace s106 := on.keep _ _ s106 (by decide)
                replace s83 := on.keep _ _ s83 (by decide)
                clear on s109
                refine st_skip (d := 111) (wanted_off rfl (show (OPS[27]?).bind (·.dst) = some 110 from HDS 27 (by decide)) s110 (by decide)) rfl (by rw [kp.size, HSZ]; decide) (fun a on s111 => ?_)
                replace kp := kp.only on (by decide)
                replace s106 := on.keep _ _ s106 (by decide)
                replace s83 := on.keep _ _ s83 (by decide)
                replace s110 := on.keep _ _ s110 (by decide)
                clear on
                clear s111
                refine st_skip (d := 112) (wanted_off rfl (show (OPS[27]?).bind (·.dst) = some 110 from HDS 27 (by decide)) s110 (by decide)) rfl (by rw [kp.size, HSZ]; decide) (fun a on s112 => ?_)
                replace kp := kp.only on (by decide)
                replace s106 := on.keep _ _ s106 (by decide)
                replace s83 := on.keep _ _ s83 (by decide)
                replace s110 := on.keep _ _ s110 (by decide)
                clear on
                clear s112
                refine st_skip (d := 113) (wanted_off rfl (show (OPS[27]?).bind (·.dst) = some 110 from HDS 27 (by decide)) s110 (by decide)) rfl (by rw [kp.size, HSZ]; decide) (fun a on s113 => ?_)
                replace kp := kp.only on (by decide)
                replace s106 := on.keep _ _ s106 (by decide)
                replace s83 := on.keep _ _ s83 (by decide)
                replace s110 := on.keep _ _ s110 (by decide)
                clear on
                clear s113
                refine st_skip (d := 114) (wanted_off rfl (show (OPS[27]?).bind (·.dst) = some 110 from HDS 27 (by decide)) s110 (by decide)) rfl (by rw [kp.size, HSZ]; decide) (fun a on s114 => ?_)
                replace kp := kp.only on (by decide)
                replace s106 := on.keep _ _ s106 (by decide)
                replace s83 := on.keep _ _ s83 (by decide)
                replace s110 := on.keep _ _ s110 (by decide)
                clear on
                clear s114
                refine st_skip (d := 115) (wanted_off rfl (show (OPS[27]?).bind (·.dst) = some 110 from HDS 27 (by decide)) s110 (by decide)) rfl (by rw [kp.size, HSZ]; decide) (fun a on s115 => ?_)
                replace kp := kp.only on (by decide)
                replace s106 := on.keep _ _ s106 (by decide)
                replace s83 := on.keep _ _ s83 (by decide)
                replace s110 := on.keep _ _ s110 (by decide)
                clear on
                clear s115
                refine st_skip (d := 116) (wanted_off rfl (show (OPS[27]?).bind (·.dst) = some 110 from HDS 27 (by decide)) s110 (by decide)) rfl (by rw [kp.size, HSZ]; decide) (fun a on s116 => ?_)
                replace kp := kp.only on (by decide)
                replace s106 := on.keep _ _ s106 (by decide)
                replace s83 := on.keep _ _ s83 (by decide)
                replace s110 := on.keep _ _ s110 (by decide)
                clear on
                clear s116
                refine st_skip (d := 117) (wanted_off rfl (show (OPS[27]?).bind (·.dst) = some 110 from HDS 27 (by decide)) s110 (by decide)) rfl (by rw [kp.size, HSZ]; decide) (fun a on s117 => ?_)
                replace kp := kp.only on (by decide)
                replace s106 := on.keep _ _ s106 (by decide)
                replace s83 := on.keep _ _ s83 (by decide)
                replace s110 := on.keep _ _ s110 (by decide)
                clear on
                clear s117
                refine st_skip (d := 118) (wanted_off rfl (show (OPS[27]?).bind (·.dst) = some 110 from HDS 27 (by decide)) s110 (by decide)) rfl (by rw [kp.size, HSZ]; decide) (fun a on s118 => ?_)
                replace kp := kp.only on (by decide)
                replace s106 := on.keep _ _ s106 (by decide)
                replace s83 := on.keep _ _ s83 (by decide)
                replace s110 := on.keep _ _ s110 (by decide)
                clear on
                clear s118
                refine st_skip (d := 119) (wanted_off rfl (show (OPS[27]?).bind (·.dst) = some 110 from HDS 27 (by decide)) s110 (by decide)) rfl (by rw [kp.size, HSZ]; decide) (fun a on s119 => ?_)
                replace kp := kp.only on (by decide)
                replace s106 := on.keep _ _ s106 (by decide)
                replace s83 := on.keep _ _ s83 (by decide)
                replace s110 := on.keep _ _ s110 (by decide)
                clear on
                clear s119
                refine st_val (d := 120) (v := (.bool false)) (wanted_on rfl (show (OPS[23]?).bind (·.dst) = some 106 from HDS 23 (by decide)) s106) rfl (by have e110 := eval_at s110; have ec : ∀ v, a.eval (.const v) = v := fun _ => rfl; generalize a.eval = ev at *; clear kp HDS; go_simp; try with_reducible rfl) (by rw [kp.size, HSZ]; decide) (fun a on s120 => ?_)
                replace kp := kp.only on (by decide)
                replace s106 := on.keep _ _ s106 (by decide)
                replace s83 := on.keep _ _ s83 (by decide)
                clear on s110
                refine st_val (d := 121) (v := (.bool false)) (wanted_none rfl) rfl (by have e106 := eval_at s106; have e120 := eval_at s120; have ec : ∀ v, a.eval (.const v) = v := fun _ => rfl; generalize a.eval = ev at *; clear kp HDS; go_simp; try with_reducible rfl) (by rw [kp.size, HSZ]; decide) (fun a on s121 => ?_)
                replace kp := kp.only on (by decide)
                replace s83 := on.keep _ _ s83 (by decide)
                clear on s106 s120
                refine st_val (d := 122) (v := (.bool false)) (wanted_none rfl) rfl (by have e121 := eval_at s121; have ec : ∀ v, a.eval (.const v) = v := fun _ => rfl; generalize a.eval = ev at *; clear kp HDS; go_simp; try with_reducible rfl) (by rw [kp.size, HSZ]; decide) (fun a on s122 => ?_)
                replace kp := kp.only on (by decide)
                replace s83 := on.keep _ _ s83 (by decide)
                clear on s121
                refine wpStill_nil ?_
                exact ⟨kp, s122, s83⟩
              · refine st_val (d := 107) (v := (.slice (some ab) 1 c2)) (wanted_on rfl (show (OPS[23]?).bind (·.dst) = some 106 from HDS 23 (by decide)) s106) rfl (by have e3 := eval_at ((kp.keep 3 (by decide)).trans z3); have ec : ∀ v, a.eval (.const v) = v := fun _ => rfl; generalize a.eval = ev at *; clear kp HDS; go_simp; try with_reducible rfl) (by rw [kp.size, HSZ]; decide) (fun a on s107 => ?_)
                replace kp := kp.only on (by decide)
                replace s106 := on.keep _ _ s106 (by decide)
                replace s83 := on.keep _ _ s83 (by decide)
                clear on
                refine st_val (d := 108) (v := (.int .i64 ((1 : Nat) : Int))) (wanted_on rfl (show (OPS[23]?).bind (·.dst) = some 106 from HDS 23 (by decide)) s106) rfl (by have e107 := eval_at s107; have ec : ∀ v, a.eval (.const v) = v := fun _ => rfl; generalize a.eval = ev at *; clear kp HDS; go_simp; try with_reducible rfl) (by rw [kp.size, HSZ]; decide) (fun a on s108 => ?_)
                replace kp := kp.only on (by decide)
                replace s106 := on.keep _ _ s106 (by decide)
                replace s83 := on.keep _ _ s83 (by decide)
                clear on s107
                refine st_val (d := 109) (v := (.bool true)) (wanted_on rfl (show (OPS[23]?).bind (·.dst) = some 106 from HDS 23 (by decide)) s106) rfl (by have e108 := eval_at s108; have ec : ∀ v, a.eval (.const v) = v := fun _ => rfl; generalize a.eval = ev at *; clear kp HDS; go_simp; try with_reducible rfl) (by rw [kp.size, HSZ]; decide) (fun a on s109 => ?_)
                replace kp := kp.only on (by decide)
                replace s106 := on.keep _ _ s106 (by decide)
                replace s83 := on.keep _ _ s83 (by decide)
                clear on s108
                refine st_val (d := 110) (v := (.bool true)) (wanted_on rfl (show (OPS[23]?).bind (·.dst) = some 106 from HDS 23 (by decide)) s106) rfl (by have e109 := eval_at s109; have ec : ∀ v, a.eval (.const v) = v := fun _ => rfl; generalize a.eval = ev at *; clear kp HDS; go_simp; try with_reducible rfl) (by rw [kp.size, HSZ]; decide) (fun a on s110 => ?_)
                replace kp := kp.only on (by decide)
                replace s106 := on.keep _ _ s106 (by decide)
                replace s83 := on.keep _ _ s83 (by decide)
                clear on s109
                refine st_val (d := 111) (v := (.pointer (some ⟨bx, 0, none⟩))) (wanted_on rfl (show (OPS[27]?).bind (·.dst) = some 110 from HDS 27 (by decide)) s110) rfl (by have e10 := eval_at ((kp.keep 10 (by decide)).trans z10); have ec : ∀ v, a.eval (.const v) = v := fun _ => rfl; generalize a.eval = ev at *; clear kp HDS; go_simp; try with_reducible rfl) (by rw [kp.size, HSZ]; decide) (fun a on s111 => ?_)
                replace kp := kp.only on (by decide)
                replace s106 := on.keep _ _ s106 (by decide)
                replace s83 := on.keep _ _ s83 (by decide)
                replace s110 := on.keep _ _ s110 (by decide)
                clear on
                refine st_val (d := 112) (v := (.slice (some ak) x.ks.length h.kc)) (wanted_on rfl (show (OPS[27]?).bind (·.dst) = some 110 from HDS 27 (by decide)) s110) rfl (by have e111 := eval_at s111; have ec : ∀ v, a.eval (.const v) = v := fun _ => rfl; generalize a.eval = ev at *; clear kp HDS; go_simp; try with_reducible rfl) (by rw [kp.size, HSZ]; decide) (fun a on s112 => ?_)
                replace kp := kp.only on (by decide)
                replace s106 := on.keep _ _ s106 (by decide)
                replace s83 := on.keep _ _ s83 (by decide)
                replace s110 := on.keep _ _ s110 (by decide)
                clear on s111
                refine st_val (d := 113) (v := (.int .i64 j)) (wanted_on rfl (show (OPS[27]?).bind (·.dst) = some 110 from HDS 27 (by decide)) s110) rfl (by have e12 := eval_at ((kp.keep 12 (by decide)).trans z12); have ec : ∀ v, a.eval (.const v) = v := fun _ => rfl; generalize a.eval = ev at *; clear kp HDS; go_simp; try with_reducible rfl) (by rw [kp.size, HSZ]; decide) (fun a on s113 => ?_)
                replace kp := kp.only on (by decide)
                replace s106 := on.keep _ _ s106 (by decide)
                replace s83 := on.keep _ _ s83 (by decide)
                replace s110 := on.keep _ _ s110 (by decide)
                replace s112 := on.keep _ _ s112 (by decide)
                clear on
                refine st_val (d := 114) (v := (.pointer (some (ak.add j)))) (wanted_on rfl (show (OPS[27]?).bind (·.dst) = some 110 from HDS 27 (by decide)) s110) rfl (by have e112 := eval_at s112; have e113 := eval_at s113; have ec : ∀ v, a.eval (.const v) = v := fun _ => rfl; generalize a.eval = ev at *; clear kp HDS; go_simp; try with_reducible rfl) (by rw [kp.size, HSZ]; decide) (fun a on s114 => ?_)
                replace kp := kp.only on (by decide)
                replace s106 := on.keep _ _ s106 (by decide)
                replace s83 := on.keep _ _ s83 (by decide)
                replace s110 := on.keep _ _ s110 (by decide)
                clear on s112 s113
                refine st_val (d := 115) (v := (.string s)) (wanted_on rfl (show (OPS[27]?).bind (·.dst) = some 110 from HDS 27 (by decide)) s110) rfl (by have e114 := eval_at s114; have ec : ∀ v, a.eval (.const v) = v := fun _ => rfl; generalize a.eval = ev at *; clear kp HDS; go_simp; try with_reducible rfl) (by rw [kp.size, HSZ]; decide) (fun a on s115 => ?_)
                replace kp := kp.only on (by decide)
                replace s106 := on.keep _ _ s106 (by decide)
                replace s83 := on.keep _ _ s83 (by decide)
                replace s110 := on.keep _ _ s110 (by decide)
                clear on s114
                refine st_val (d := 116) (v := (.slice (some ab) 1 c2)) (wanted_on rfl (show (OPS[27]?).bind (·.dst) = some 110 from HDS 27 (by decide)) s110) rfl (by have e3 := eval_at ((kp.keep 3 (by decide)).trans z3); have ec : ∀ v, a.eval (.const v) = v := fun _ => rfl; generalize a.eval = ev at *; clear kp HDS; go_simp; try with_reducible rfl) (by rw [kp.size, HSZ]; decide) (fun a on s116 => ?_)
                replace kp := kp.only on (by decide)
                replace s106 := on.keep _ _ s106 (by decide)
                replace s83 := on.keep _ _ s83 (by decide)
                replace s110 := on.keep _ _ s110 (by decide)
                replace s115 := on.keep _ _ s115 (by decide)
                clear on
                refine st_val (d := 117) (v := (.pointer (some ab))) (wanted_on rfl (show (OPS[27]?).bind (·.dst) = some 110 from HDS 27 (by decide)) s110) rfl (by have e116 := eval_at s116; have ec : ∀ v, a.eval (.const v) = v := fun _ => rfl; generalize a.eval = ev at *; clear kp HDS; go_simp; try with_reducible rfl) (by rw [kp.size, HSZ]; decide) (fun a on s117 => ?_)
                replace kp := kp.only on (by decide)
                replace s106 := on.keep _ _ s106 (by decide)
                replace s83 := on.keep _ _ s83 (by decide)
                replace s110 := on.keep _ _ s110 (by decide)
                replace s115 := on.keep _ _ s115 (by decide)
                clear on s116
                refine st_val (d := 118) (v := (.string lim)) (wanted_on rfl (show (OPS[27]?).bind (·.dst) = some 110 from HDS 27 (by decide)) s110) rfl (by have e117 := eval_at s117; have ec : ∀ v, a.eval (.const v) = v := fun _ => rfl; generalize a.eval = ev at *; clear kp HDS; go_simp; try with_reducible rfl) (by rw [kp.size, HSZ]; decide) (fun a on s118 => ?_)
                replace kp := kp.only on (by decide)
                replace s106 := on.keep _ _ s106 (by decide)
                replace s83 := on.keep _ _ s83 (by decide)
                replace s110 := on.keep _ _ s110 (by decide)
                replace s115 := on.keep _ _ s115 (by decide)
                clear on s117
                refine st_val (d := 119) (v := (.bool (!L2))) (wanted_on rfl (show (OPS[27]?).bind (·.dst) = some 110 from HDS 27 (by decide)) s110) rfl (by have e115 := eval_at s115; have e118 := eval_at s118; have ec : ∀ v, a.eval (.const v) = v := fun _ => rfl; generalize a.eval = ev at *; clear kp HDS; go_simp; try with_reducible rfl) (by rw [kp.size, HSZ]; decide) (fun a on s119 => ?_)
                replace kp := kp.only on (by decide)
                replace s106 := on.keep _ _ s106 (by decide)
                replace s83 := on.keep _ _ s83 (by decide)
                replace s110 := on.keep _ _ s110 (by decide)
                clear on s115 s118
                refine st_val (d := 120) (v := (.bool (!L2))) (wanted_on rfl (show (OPS[23]?).bind (·.dst) = some 106 from HDS 23 (by decide)) s106) rfl (by have e110 := eval_at s110; have e119 := eval_at s119; have ec : ∀ v, a.eval (.const v) = v := fun _ => rfl; generalize a.eval = ev at *; clear kp HDS; go_simp; try with_reducible rfl) (by rw [kp.size, HSZ]; decide) (fun a on s120 => ?_)
                replace kp := kp.only on (by decide)
                replace s106 := on.keep _ _ s106 (by decide)
                replace s83 := on.keep _ _ s83 (by decide)
                clear on s110 s119
                refine st_val (d := 121) (v := (.bool (!L2))) (wanted_none rfl) rfl (by have e106 := eval_at s106; have e120 := eval_at s120; have ec : ∀ v, a.eval (.const v) = v := fun _ => rfl; generalize a.eval = ev at *; clear kp HDS; go_simp; try with_reducible rfl) (by rw [kp.size, HSZ]; decide) (fun a on s121 => ?_)
                replace kp := kp.only on (by decide)
                replace s83 := on.keep _ _ s83 (by decide)
                clear on s106 s120
                refine st_val (d := 122) (v := (.bool (!L2))) (wanted_none rfl) rfl (by have e121 := eval_at s121; have ec : ∀ v, a.eval (.const v) = v := fun _ => rfl; generalize a.eval = ev at *; clear kp HDS; go_simp; try with_reducible rfl) (by rw [kp.size, HSZ]; decide) (fun a on s122 => ?_)
                replace kp := kp.only on (by decide)
                replace s83 := on.keep _ _ s83 (by decide)
                clear on s121
                refine wpStill_nil ?_
                exact ⟨kp, s122, s83⟩
          simp only [List.take_succ_cons, List.take_zero, List.drop_succ_cons, List.drop_zero]
          rintro a2 ⟨kp2, s122, s83⟩
          revert s122 s83 kp2
          generalize hB2 : ((b || !L1) || !L2) = B2 at *
          revert a2
          intro a kp s122 s83
          refine still_mono (R := fun a => Kp 83 138 a0 a ∧ a.tmps[137]? = some (.bool (B2 || !L3)) ∧ a.tmps[83]? = some (ptr gw)) ?_ ?p3
          case p3 =>
            clear hw2 hak HA0 HKK HKD HFD HNEW HBW hp1 hn1 hwm
            cases B2 with
            | true =>
              refine st_skip (d := 123) (wanted_off rfl (show (OPS[39]?).bind (·.dst) = some 122 from HDS 39 (by decide)) s122 (by decide)) rfl (by rw [kp.size, HSZ]; decide) (fun a on s123 => ?_)
              replace kp := kp.only on (by decide)
              replace s122 := on.keep _ _ s122 (by decide)
              replace s83 := on.keep _ _ s83 (by decide)
              clear on
              clear s123
              refine st_skip (d := 124) (wanted_off rfl (show (OPS[39]?).bind (·.dst) = some 122 from HDS 39 (by decide)) s122 (by decide)) rfl (by rw [kp.size, HSZ]; decide) (fun a on s124 => ?_)
              replace kp := kp.only on (by decide)
              replace s122 := on.keep _ _ s122 (by decide)
              replace s83 := on.keep _ _ s83 (by decide)
              clear on
              clear s124
              refine st_skip (d := 125) (wanted_off rfl (show (OPS[39]?).bind (·.dst) = some 122 from HDS 39 (by decide)) s122 (by decide)) rfl (by rw [kp.size, HSZ]; decide) (fun a on s125 => ?_)
              replace kp := kp.only on (by decide)
              replace s122 := on.keep _ _ s122 (by decide)
              replace s83 := on.keep _ _ s83 (by decide)
              clear on
              clear s125
              refine st_skip (d := 126) (wanted_off rfl (show (OPS[39]?).bind (·.dst) = some 122 from HDS 39 (by decide)) s122 (by decide)) rfl (by rw [kp.size, HSZ]; decide) (fun a on s126 => ?_)
              replace kp := kp.only on (by decide)
              replace s122 := on.keep _ _ s122 (by decide)
              replace s83 := on.keep _ _ s83 (by decide)
              clear on
              refine st_skip (d := 127) (wanted_undef rfl (show (OPS[43]?).bind (·.dst) = some 126 from HDS 43 (by decide)) s126) rfl (by rw [kp.size, HSZ]; decide) (fun a on s127 => ?_)
              replace kp := kp.only on (by decide)
              replace s122 := on.keep _ _ s122 (by decide)
              replace s83 := on.keep _ _ s83 (by decide)
              replace s126 := on.keep _ _ s126 (by decide)
              clear on
              clear s127
              refine st_skip (d := 128) (wanted_undef rfl (show (OPS[43]?).bind (·.dst) = some 126 from HDS 43 (by decide)) s126) rfl (by rw [kp.size, HSZ]; decide) (fun a on s128 => ?_)
              replace kp := kp.only on (by decide)
              replace s122 := on.keep _ _ s122 (by decide)
              replace s83 := on.keep _ _ s83 (by decide)
              replace s126 := on.keep _ _ s126 (by decide)
              clear on
              clear s128
              refine st_skip (d := 129) (wanted_undef rfl (show (OPS[43]?).bind (·.dst) = some 126 from HDS 43 (by decide)) s126) rfl (by rw [kp.size, HSZ]; decide) (fun a on s129 => ?_)
              replace kp := kp.only on (by decide)
              replace s122 := on.keep _ _ s122 (by decide)
              replace s83 := on.keep _ _ s83 (by decide)
              replace s126 := on.keep _ _ s126 (by decide)
              clear on
              clear s129
              refine st_skip (d := 130) (wanted_undef rfl (show (OPS[43]?).bind (·.dst) = some 126 from HDS 43 (by decide)) s126) rfl (by rw [kp.size, HSZ]; decide) (fun a on s130 => ?_)
              replace kp := kp.only on (by decide)
              replace s122 := on.keep _ _ s122 (by decide)
              replace s83 := on.keep _ _ s83 (by decide)
              replace s126 := on.keep _ _ s126 (by decide)
              clear on
              clear s130
              refine st_skip (d := 131) (wanted_undef rfl (show (OPS[43]?).bind (·.dst) = some 126 from HDS 43 (by decide)) s126) rfl (by rw [kp.size, HSZ]; decide) (fun a on s131 => ?_)
              replace kp := kp.only on (by decide)
              replace s122 := on.keep _ _ s122 (by decide)
              replace s83 := on.keep _ _ s83 (by decide)
              replace s126 := on.keep _ _ s126 (by decide)
              clear on
              clear s131
              refine st_skip (d := 132) (wanted_undef rfl (show (OPS[43]?).bind (·.dst) = some 126 from HDS 43 (by decide)) s126) rfl (by rw [kp.size, HSZ]; decide) (fun a on s132 => ?_)
              replace kp := kp.only on (by decide)
              replace s122 := on.keep _ _ s122 (by decide)
              replace s83 := on.keep _ _ s83 (by decide)
              replace s126 := on.keep _ _ s126 (by decide)
              clear on
              clear s132
              refine st_skip (d := 133) (wanted_undef rfl (show (OPS[43]?).bind (·.dst) = some 126 from HDS 43 (by decide)) s126) rfl (by rw [kp.size, HSZ]; decide) (fun a on s133 => ?_)
              replace kp := kp.only on (by decide)
              replace s122 := on.keep _ _ s122 (by decide)
              replace s83 := on.keep _ _ s83 (by decide)
              replace s126 := on.keep _ _ s126 (by decide)
              clear on
              clear s133
              refine st_skip (d := 134) (wanted_undef rfl (show (OPS[43]?).bind (·.dst) = some 126 from HDS 43 (by decide)) s126) rfl (by rw [kp.size, HSZ]; decide) (fun a on s134 => ?_)
              replace kp := kp.only on (by decide)
              replace s122 := on.keep _ _ s122 (by decide)
              replace s83 := on.keep _ _ s83 (by decide)
              replace s126 := on.keep _ _ s126 (by decide)
              clear on
              clear s134
              refine st_skip (d := 135) (wanted_undef rfl (show (OPS[43]?).bind (·.dst) = some 126 from HDS 43 (by decide)) s126) rfl (by rw [kp.size, HSZ]; decide) (fun a on s135 => ?_)
              replace kp := kp.only on (by decide)
              replace s122 := on.keep _ _ s122 (by decide)
              replace s83 := on.keep _ _ s83 (by decide)
              replace s126 := on.keep _ _ s126 (by decide)
              clear on
              clear s135
              refine st_skip (d := 136) (wanted_off rfl (show (OPS[39]?).bind (·.dst) = some 122 from HDS 39 (by decide)) s122 (by decide)) rfl (by rw [kp.size, HSZ]; decide) (fun a on s136 => ?_)
              replace kp := kp.only on (by decide)
              replace s122 := on.keep _ _ s122 (by decide)
              replace s83 := on.keep _ _ s83 (by decide)
              clear on s126
              clear s136
              refine st_val (d := 137) (v := (.bool true)) (wanted_none rfl) rfl (by have e122 := eval_at s122; have ec : ∀ v, a.eval (.const v) = v := fun _ => rfl; generalize a.eval = ev at *; clear kp HDS; go_simp; try with_reducible rfl) (by rw [kp.size, HSZ]; decide) (fun a on s137 => ?_)
              replace kp := kp.only on (by decide)
              replace s83 := on.keep _ _ s83 (by decide)
              clear on s122
              refine wpStill_nil ?_
              exact ⟨kp, s137, s83⟩
            | false =>
              rcases hw3 with ⟨rfl, rfl⟩ | ⟨rfl, ab, lim, rfl, q2, hb2⟩
              · refine st_val (d := 123) (v := (.slice A3 0 c3)) (wanted_on rfl (show (OPS[39]?).bind (·.dst) = some 122 from HDS 39 (by decide)) s122) rfl (by have e4 := eval_at ((kp.keep 4 (by decide)).trans z4); have ec : ∀ v, a.eval (.const v) = v := fun _ => rfl; generalize a.eval = ev at *; clear kp HDS; go_simp; try with_reducible rfl) (by rw [kp.size, HSZ]; decide) (fun a on s123 => ?_)
                replace kp := kp.only on (by decide)
                replace s122 := on.keep _ _ s122 (by decide)
                replace s83 := on.keep _ _ s83 (by decide)
                clear on
                refine st_val (d := 124) (v := (.int .i64 ((0 : Nat) : Int))) (wanted_on rfl (show (OPS[39]?).bind (·.dst) = some 122 from HDS 39 (by decide)) s122) rfl (by have e123 := eval_at s123; have ec : ∀ v, a.eval (.const v) = v := fun _ => rfl; generalize a.eval = ev at *; clear kp HDS; go_simp; try with_reducible rfl) (by rw [kp.size, HSZ]; decide) (fun a on s124 => ?_)
                replace kp := kp.only on (by decide)
                replace s122 := on.keep _ _ s122 (by decide)
                replace s83 := on.keep _ _ s83 (by decide)
                clear on s123
                refine st_val (d := 125) (v := (.bool false)) (wanted_on rfl (show (OPS[39]?).bind (·.dst) = some 122 from HDS 39 (by decide)) s122) rfl (by have e124 := eval_at s124; have ec : ∀ v, a.eval (.const v) = v := fun _ => rfl; generalize a.eval = ev at *; clear kp HDS; go_simp; try with_reducible rfl) (by rw [kp.size, HSZ]; decide) (fun a on s125 => ?_)
                replace kp := kp.only on (by decide)
                replace s122 := on.keep _ _ s122 (by decide)
                replace s83 := on.keep _ _ s83 (by decide)
                clear on s124
                refine st_val (d := 126) (v := (.bool false)) (wanted_on rfl (show (OPS[39]?).bind (·.dst) = some 122 from HDS 39 (by decide)) s122) rfl (by have e125 := eval_at s125; have ec : ∀ v, a.eval (.const v) = v := fun _ => rfl; generalize a.eval = ev at *; clear kp HDS; go_simp; try with_reducible rfl) (by rw [kp.size, HSZ]; decide) (fun a on s126 => ?_)
                replace kp := kp.only on (by decide)
                replace s122 := on.keep _ _ s122 (by decide)
                replace s83 := on.keep _ _ s83 (by decide)
                clear on s125
                refine st_skip (d := 127) (wanted_off rfl (show (OPS[43]?).bind (·.dst) = some 126 from HDS 43 (by decide)) s126 (by decide)) rfl (by rw [kp.size, HSZ]; decide) (fun a on s127 => ?_)
                replace kp := kp.only on (by decide)
                replace s122 := on.keep _ _ s122 (by decide)
                replace s83 := on.keep _ _ s83 (by decide)
                replace s126 := on.keep _ _ s126 (by decide)
                clear on
                clear s127
                refine st_skip (d := 128) (wanted_off rfl (show (OPS[43]?).bind (·.dst) = some 126 from HDS 43 (by decide)) s126 (by decide)) rfl (by rw [kp.size, HSZ]; decide) (fun a on s128 => ?_)
                replace kp := kp.only on (by decide)
                replace s122 := on.keep _ _ s122 (by decide)
                replace s83 := on.keep _ _ s83 (by decide)
                replace s126 := on.keep _ _ s126 (by decide)
                clear on
                clear s128
                refine st_skip (d := 129) (wanted_off rfl (show (OPS[43]?).bind (·.dst) = some 126 from HDS 43 (by decide)) s126 (by decide)) rfl (by rw [kp.size, HSZ]; decide) (fun a on s129 => ?_)
                replace kp := kp.only on (by decide)
                replace s122 := on.keep _ _ s122 (by decide)
                replace s83 := on.keep _ _ s83 (by decide)
                replace s126 := on.keep _ _ s126 (by decide)
                clear on
                clear s129
                refine st_skip (d := 130) (wanted_off rfl (show (OPS[43]?).bind (·.dst) = some 126 from HDS 43 (by decide)) s126 (by decide)) rfl (by rw [kp.size, HSZ]; decide) (fun a on s130 => ?_)
                replace kp := kp.only on (by decide)
                replace s122 := on.keep _ _ s122 (by decide)
                replace s83 := on.keep _ _ s83 (by decide)
                replace s126 := on.keep _ _ s126 (by decide)
                clear on
                clear s130
                refine st_skip (d := 131) (wanted_off rfl (show (OPS[43]?).bind (·.dst) = some 126 from HDS 43 (by decide)) s126 (by decide)) rfl (by rw [kp.size, HSZ]; decide) (fun a on s131 => ?_)
                replace kp := kp.only on (by decide)
                replace s122 := on.keep _ _ s122 (by decide)
                replace s83 := on.keep _ _ s83 (by decide)
                replace s126 := on.keep _ _ s126 (by decide)
                clear on
                clear s131
                refine st_skip (d := 132) (wanted_off rfl (show (OPS[43]?).bind (·.dst) = some 126 from HDS 43 (by decide)) s126 (by decide)) rfl (by rw [kp.size, HSZ]; decide) (fun a on s132 => ?_)
                replace kp := kp.only on (by decide)
                replace s122 := on.keep _ _ s122 (by decide)
                replace s83 := on.keep _ _ s83 (by decide)
                replace s126 := on.keep _ _ s126 (by decide)
                clear on
                clear s132
                refine st_skip (d := 133) (wanted_off rfl (show (OPS[43]?).bind (·.dst) = some 126 from HDS 43 (by decide)) s126 (by decide)) rfl (by rw [kp.size, HSZ]; decide) (fun a on s133 => ?_)
                replace kp := kp.only on (by decide)
                replace s122 := on.keep _ _ s122 (by decide)
                replace s83 := on.keep _ _ s83 (by decide)
                replace s126 := on.keep _ _ s126 (by decide)
                clear on
                clear s133
                refine st_skip (d := 134) (wanted_off rfl (show (OPS[43]?).bind (·.dst) = some 126 from HDS 43 (by decide)) s126 (by decide)) rfl (by rw [kp.size, HSZ]; decide) (fun a on s134 => ?_)
                replace kp := kp.only on (by decide)
                replace s122 := on.keep _ _ s122 (by decide)
                replace s83 := on.keep _ _ s83 (by decide)
                replace s126 := on.keep _ _ s126 (by decide)
                clear on
                clear s134
                refine st_skip (d := 135) (wanted_off rfl (show (OPS[43]?).bind (·.dst) = some 126 from HDS 43 (by decide)) s126 (by decide)) rfl (by rw [kp.size, HSZ]; decide) (fun a on s135 => ?_)
                replace kp := kp.only on (by decide)
                replace s122 := on.keep _ _ s122 (by decide)
                replace s83 := on.keep _ _ s83 (by decide)
                replace s126 := on.keep _ _ s126 (by decide)
                clear on
                clear s135
                refine st_val (d := 136) (v := (.bool false)) (wanted_on rfl (show (OPS[39]?).bind (·.dst) = some 122 from HDS 39 (by decide)) s122) rfl (by have e126 := eval_at s126; have ec : ∀ v, a.eval (.const v) = v := fun _ => rfl; generalize a.eval = ev at *; clear kp HDS; go_simp; try with_reducible rfl) (by rw [kp.size, HSZ]; decide) (fun a on s136 => ?_)
                replace kp := kp.only on (by decide)
                replace s122 := on.keep _ _ s122 (by decide)
                replace s83 := on.keep _ _ s83 (by decide)
                clear on s126
                refine st_val (d := 137) (v := (.bool false)) (wanted_none rfl) rfl (by have e122 := eval_at s122; have e136 := eval_at s136; have ec : ∀ v, a.eval (.const v) = v := fun _ => rfl; generalize a.eval = ev at *; clear kp HDS; go_simp; try with_reducible rfl) (by rw [kp.size, HSZ]; decide) (fun a on s137 => ?_)
                replace kp := kp.only on (by decide)
                replace s83 := on.keep _ _ s83 (by decide)
                clear on s122 s136
                refine wpStill_nil ?_
                exact ⟨kp, s137, s83⟩
              · refine st_val (d := 123) (v := (.slice (some ab) 1 c3)) (wanted_on rfl (show (OPS[39]?).bind (·.dst) = some 122 from HDS 39 (by decide)) s122) rfl (by have e4 := eval_at ((kp.keep 4 (by decide)).trans z4); have ec : ∀ v, a.eval (.const v) = v := fun _ => rfl; generalize a.eval = ev at *; clear kp HDS; go_simp; try with_reducible rfl) (by rw [kp.size, HSZ]; decide) (fun a on s123 => ?_)
                replace kp := kp.only on (by decide)
                replace s122 := on.keep _ _ s122 (by decide)
                replace s83 := on.keep _ _ s83 (by decide)
                clear on
                refine st_val (d := 124) (v := (.int .i64 ((1 : Nat) : Int))) (wanted_on rfl (show (OPS[39]?).bind (·.dst) = some 122 from HDS 39 (by decide)) s122) rfl (by have e123 := eval_at s123; have ec : ∀ v, a.eval (.const v) = v := fun _ => rfl; generalize a.eval = ev at *; clear kp HDS; go_simp; try with_reducible rfl) (by rw [kp.size, HSZ]; decide) (fun a on s124 => ?_)
                replace kp := kp.only on (by decide)
                replace s122 := on.keep _ _ s122 (by decide)
                replace s83 := on.keep _ _ s83 (by decide)
                clear on s123
                refine st_val (d := 125) (v := (.bool true)) (wanted_on rfl (show (OPS[39]?).bind (·.dst) = some 122 from HDS 39 (by decide)) s122) rfl (by have e124 := eval_at s124; have ec : ∀ v, a.eval (.const v) = v := fun _ => rfl; generalize a.eval = ev at *; clear kp HDS; go_simp; try with_reducible rfl) (by rw [kp.size, HSZ]; decide) (fun a on s125 => ?_)
                replace kp := kp.only on (by decide)
                replace s122 := on.keep _ _ s122 (by decide)
                replace s83 := on.keep _ _ s83 (by decide)
                clear on s124
                refine st_val (d := 126) (v := (.bool true)) (wanted_on rfl (show (OPS[39]?).bind (·.dst) = some 122 from HDS 39 (by decide)) s122) rfl (by have e125 := eval_at s125; have ec : ∀ v, a.eval (.const v) = v := fun _ => rfl; generalize a.eval = ev at *; clear kp HDS; go_simp; try with_reducible rfl) (by rw [kp.size, HSZ]; decide) (fun a on s126 => ?_)
                replace kp := kp.only on (by decide)
                replace s122 := on.keep _ _ s122 (by decide)
                replace s83 := on.keep _ _ s83 (by decide)
                clear on s125
                refine st_val (d := 127) (v := (.pointer (some ⟨bx, 0, none⟩))) (wanted_on rfl (show (OPS[43]?).bind (·.dst) = some 126 from HDS 43 (by decide)) s126) rfl (by have e10 := eval_at ((kp.keep 10 (by decide)).trans z10); have ec : ∀ v, a.eval (.const v) = v := fun _ => rfl; generalize a.eval = ev at *; clear kp HDS; go_simp; try with_reducible rfl) (by rw [kp.size, HSZ]; decide) (fun a on s127 => ?_)
                replace kp := kp.only on (by decide)
                replace s122 := on.keep _ _ s122 (by decide)
                replace s83 := on.keep _ _ s83 (by decide)
                replace s126 := on.keep _ _ s126 (by decide)
                clear on
                refine st_val (d := 128) (v := (.slice (some ak) x.ks.length h.kc)) (wanted_on rfl (show (OPS[43]?).bind (·.dst) = some 126 from HDS 43 (by decide)) s126) rfl (by have e127 := eval_at s127; have ec : ∀ v, a.eval (.const v) = v := fun _ => rfl; generalize a.eval = ev at *; clear kp HDS; go_simp; try with_reducible rfl) (by rw [kp.size, HSZ]; decide) (fun a on s128 => ?_)
                replace kp := kp.only on (by decide)
                replace s122 := on.keep _ _ s122 (by decide)
                replace s83 := on.keep _ _ s83 (by decide)
                replace s126 := on.keep _ _ s126 (by decide)
                clear on s127
                refine st_val (d := 129) (v := (.int .i64 j)) (wanted_on rfl (show (OPS[43]?).bind (·.dst) = some 126 from HDS 43 (by decide)) s126) rfl (by have e12 := eval_at ((kp.keep 12 (by decide)).trans z12); have ec : ∀ v, a.eval (.const v) = v := fun _ => rfl; generalize a.eval = ev at *; clear kp HDS; go_simp; try with_reducible rfl) (by rw [kp.size, HSZ]; decide) (fun a on s129 => ?_)
                replace kp := kp.only on (by decide)
                replace s122 := on.keep _ _ s122 (by decide)
                replace s83 := on.keep _ _ s83 (by decide)
                replace s126 := on.keep _ _ s126 (by decide)
                replace s128 := on.keep _ _ s128 (by decide)
                clear on
                refine st_val (d := 130) (v := (.pointer (some (ak.add j)))) (wanted_on rfl (show (OPS[43]?).bind (·.dst) = some 126 from HDS 43 (by decide)) s126) rfl (by have e128 := eval_at s128; have e129 := eval_at s129; have ec : ∀ v, a.eval (.const v) = v := fun _ => rfl; generalize a.eval = ev at *; clear kp HDS; go_simp; try with_reducible rfl) (by rw [kp.size, HSZ]; decide) (fun a on s130 => ?_)
                replace kp := kp.only on (by decide)
                replace s122 := on.keep _ _ s122 (by decide)
                replace s83 := on.keep _ _ s83 (by decide)
                replace s126 := on.keep _ _ s126 (by decide)
                clear on s128 s129
                refine st_val (d := 131) (v := (.string s)) (wanted_on rfl (show (OPS[43]?).bind (·.dst) = some 126 from HDS 43 (by decide)) s126) rfl (by have e130 := eval_at s130; have ec : ∀ v, a.eval (.const v) = v := fun _ => rfl; generalize a.eval = ev at *; clear kp HDS; go_simp; try with_reducible rfl) (by rw [kp.size, HSZ]; decide) (fun a on s131 => ?_)
                replace kp := kp.only on (by decide)
                replace s122 := on.keep _ _ s122 (by decide)
                replace s83 := on.keep _ _ s83 (by decide)
                replace s126 := on.keep _ _ s126 (by decide)
                clear on s130
                refine st_val (d := 132) (v := (.slice (some ab) 1 c3)) (wanted_on rfl (show (OPS[43]?).bind (·.dst) = some 126 from HDS 43 (by decide)) s126) rfl (by have e4 := eval_at ((kp.keep 4 (by decide)).trans z4); have ec : ∀ v, a.eval (.const v) = v := fun _ => rfl; generalize a.eval = ev at *; clear kp HDS; go_simp; try with_reducible rfl) (by rw [kp.size, HSZ]; decide) (fun a on s132 => ?_)
                replace kp := kp.only on (by decide)
                replace s122 := on.keep _ _ s122 (by decide)
                replace s83 := on.keep _ _ s83 (by decide)
                replace s126 := on.keep _ _ s126 (by decide)
                replace s131 := on.keep _ _ s131 (by decide)
                clear on
                refine st_val (d := 133) (v := (.pointer (some ab))) (wanted_on rfl (show (OPS[43]?).bind (·.dst) = some 126 from HDS 43 (by decide)) s126) rfl (by have e132 := eval_at s132; have ec : ∀ v, a.eval (.const v) = v := fun _ => rfl; generalize a.eval = ev at *; clear kp HDS; go_simp; try with_reducible rfl) (by rw [kp.size, HSZ]; decide) (fun a on s133 => ?_)
                replace kp := kp.only on (by decide)
                replace s122 := on.keep _ _ s122 (by decide)
                replace s83 := on.keep _ _ s83 (by decide)
                replace s126 := on.keep _ _ s126 (by decide)
                replace s131 := on.keep _ _ s131 (by decide)
                clear on s132
                refine st_val (d := 134) (v := (.string lim)) (wanted_on rfl (show (OPS[43]?).bind (·.dst) = some 126 from HDS 43 (by decide)) s126) rfl (by have e133 := eval_at s133; have ec : ∀ v, a.eval (.const v) = v := fun _ => rfl; generalize a.eval = ev at *; clear kp HDS; go_simp; try with_reducible rfl) (by rw [kp.size, HSZ]; decide) (fun a on s134 => ?_)
                replace kp := kp.only on (by decide)
                replace s122 := on.keep _ _ s122 (by decide)
                replace s83 := on.keep _ _ s83 (by decide)
                replace s126 := on.keep _ _ s126 (by decide)
                replace s131 := on.keep _ _ s131 (by decide)
                clear on s133
                refine st_val (d := 135) (v := (.bool (!L3))) (wanted_on rfl (show (OPS[43]?).bind (·.dst) = some 126 from HDS 43 (by decide)) s126) rfl (by have e131 := eval_at s131; have e134 := eval_at s134; have ec : ∀ v, a.eval (.const v) = v := fun _ => rfl; generalize a.eval = ev at *; clear kp HDS; go_simp; try with_reducible rfl) (by rw [kp.size, HSZ]; decide) (fun a on s135 => ?_)
                replace kp := kp.only on (by decide)
                replace s122 := on.keep _ _ s122 (by decide)
                replace s83 := on.keep _ _ s83 (by decide)
                replace s126 := on.keep _ _ s126 (by decide)
                clear on s131 s134
                refine st_val (d := 136) (v := (.bool (!L3))) (wanted_on rfl (show (OPS[39]?).bind (·.dst) = some 122 from HDS 39 (by decide)) s122) rfl (by have e126 := eval_at s126; have e135 := eval_at s135; have ec : ∀ v, a.eval (.const v) = v := fun _ => rfl; generalize a.eval = ev at *; clear kp HDS; go_simp; try with_reducible rfl) (by rw [kp.size, HSZ]; decide) (fun a on s136 => ?_)
                replace kp := kp.only on (by decide)
                replace s122 := on.keep _ _ s122 (by decide)
                replace s83 := on.keep _ _ s83 (by decide)
                clear on s126 s135
                refine st_val (d := 137) (v := (.bool (!L3))) (wanted_none rfl) rfl (by have e122 := eval_at s122; have e136 := eval_at s136; have ec : ∀ v, a.eval (.const v) = v := fun _ => rfl; generalize a.eval = ev at *; clear kp HDS; go_simp; try with_reducible rfl) (by rw [kp.size, HSZ]; decide) (fun a on s137 => ?_)
                replace kp := kp.only on (by decide)
                replace s83 := on.keep _ _ s83 (by decide)
                clear on s122 s136
                refine wpStill_nil ?_
                exact ⟨kp, s137, s83⟩
          rintro a3 ⟨kp3, s137, s83⟩
          refine HKK.out _ ?_
          generalize (B2 || !L3) = B3 at *
          obtain ⟨m, hm, he⟩ := kept_frame kp3 (by decide) (by rw [HSZ]; decide)
          rw [HA0.out] at he
          obtain ⟨x0, x1, x2, x3, x4, x5, x6, x7, x8, x9, x10, x11, x12, x13, x14, x15, x16, x17, x18, x19, x20, x21, x22, x23, x24, x25, x26, x27, x28, x29, x30, x31, x32, x33, x34, x35, x36, x37, x38, x39, x40, x41, x42, x43, x44, x45, x46, x47, x48, x49, x50, x51, x52, x53, x54, rfl⟩ := list55 hm
          rw [he] at s137 s83
          have hx0 := Option.some.inj (show some x0 = some (ptr gw) from s83)
          subst hx0
          have hx54 := Option.some.inj (show some x54 = some (.bool B3) from s137)
          subst hx54
          simp only [List.take_succ_cons, List.take_zero, List.drop_succ_cons, List.drop_zero, List.cons_append, List.nil_append] at he
          subst he
          clear s137 s83 hwm hp1 hn1 hw2 hw3 t0 q0 hm HA0 HKK z0 z3 z4 z10 z12 HSZ kp3 HDS
          have c5 := HKD.out.cells.2.2.2.2.2.1
          have cf5 := HKD.out.cells.2.2.2.2.2.2 5
          clear hlj hak
          go_wp2
          go_roundw
          case rel => exact ⟨j + 1, B3, by go_num, hlt, HKD.out.setBad B3, HFD.out.trans (Fw.set _) (fun b hb => .inl hb), HNEW.out⟩
          case measure => simp [intOf]; omega
        · obtain rfl : j = x.ks.length := by omega
          have hlt' : ¬ (x.ks.length : Int) < (x.ks.length : Int) := by omega
          have HLF := Lib.hid (rleaf_any w0 wr gw gm (some ad) n c root (i :: M) vo out L b HKJ.out HBW.out x h HX0.out.k HX0.out.v deep HD.out.2 hl (fun _ => hout))
          clear c5 cf5 HKJ
          go_wp2_with (first | (go_at_call 59; (with_reducible refine HLF.out.mono ?_); rintro e w5 ⟨rfl, hlp⟩; have HLP := Lib.hid hlp; clear hlp))
          obtain ⟨vo', out', bad', k5, f5, o5, hb5, ho5⟩ := HLP.out
          have hfw : Fw gw gm vo w w5 := (HK2.out.2.trans HFJ.out (fun b hb => .inl hb)).trans f5 (fun b hb => .inl hb)
          have hsz : w.heap.size ≤ wr.heap.size := (HK2.out.2.trans HFJ.out (fun b hb => .inl hb)).size
          refine bodyPost_ret (v := .tuple #[]) (by simp [results, Try.results46, go_sem]) rfl ⟨rfl, vo', hfw, fun b hb => ?_, ?_⟩
          · rcases o5 b hb with h1 | h1
            · exact .inl h1
            · exact .inr (Nat.le_trans hsz h1)
          · cases bad' with
            | false =>
              have h1 := hb5.1 rfl
              have h2 : b = false := h1.1
              subst h2
              have h3 := HBJ.out.1 rfl
              rw [HRD.out.1 ⟨h1, h3⟩]
              have h4 := ho5 rfl
              subst h4
              show Wk w5 w0.heap.size gw gm (some ad) n c root (i :: M) vo' (out ++ prs (deep - deep) (.mk x.ks x.vs [])) deep false
              rw [Nat.sub_self]
              exact k5
            | true =>
              rw [HRD.out.2 fun hh => by
                have h2 : b = false := HBJ.out.2 hh.2
                subst h2
                have := hb5.2 hh.1
                cases this]
              exact ⟨_, _, _, k5⟩
end Go.Proofs.Ytkpjkglheegmgaa
