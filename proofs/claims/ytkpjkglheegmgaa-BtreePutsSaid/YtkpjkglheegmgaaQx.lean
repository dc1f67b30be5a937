/- Lists of texts and of numbers compared; a tree that stays: the walks of SameStrings, SameInts and Stays. Conditions: lists that are read in memory. -/
import Derived.Test.YtkpjkglheegmgaaQj
namespace Go.Proofs.Ytkpjkglheegmgaa
open Go.RowKit Go.Sort
set_option linter.unusedSimpArgs false
set_option linter.unusedVariables false


set_option maxRecDepth 100000 in
set_option maxHeartbeats 2000000 in
theorem sameStrs_any (A B : Option Addr) (c d n m : Nat) (l r : List Key) (w : World) (hna : n = l.length) (hnb : m = r.length) (ha : Rd w A n c (strs l)) (hb : Rd w B m d (strs r)) :
    Calls Try.prog 32 #[.slice A n c, .slice B m d] w fun e w' => e = .returned (.bool (decide (l = r))) ∧ Below w.heap.size w w' := by
  have HA := Lib.hid ha
  have HB := Lib.hid hb
  have hma := ha.mx
  have hmb := hb.mx
  subst hna
  subst hnb
  have hmp : ∀ {α : Type} [DecidableEq α] (l r : List α) (j : Nat) (h1 : j < l.length) (h2 : j < r.length), l[j] ≠ r[j] → decide (l = r) = false := fun l r j h1 h2 h => decide_eq_false fun e => by subst e; exact h rfl
  clear ha hb
  by_cases hl : l.length = r.length
  · have hli : (l.length : Int) = (r.length : Int) := by omega
    have hle : ((l.length : Int) != (r.length : Int)) = false := by simp [hl]
    have HLE := Lib.hid hl
    clear hl
    go_enter Try.func32, Try.ntmps32
    go_wp2
    clear hle hli
    go_loopw [5] (fun i wr => ∃ j : Nat, i = .int .i64 j ∧ j ≤ l.length ∧ Below w.heap.size w wr ∧ l.take j = r.take j) (fun i _ => l.length - (intOf i).toNat)
    case atStart => exact ⟨0, rfl, by omega, Below.refl _ _, rfl⟩
    case round =>
      obtain ⟨j, rfl, hj, hBB, hT⟩ := hrel
      have HBB := Lib.hid (And.intro hBB hT)
      clear hBB hT
      by_cases hlt : j < l.length
      · have hlt2 : j < r.length := by have := HLE.out; omega
        obtain ⟨ad, e0, a0⟩ := (HA.out.below HBB.out.1).at_ (strs_at hlt)
        obtain ⟨bd, e1, b0⟩ := (HB.out.below HBB.out.1).at_ (strs_at hlt2)
        subst e0
        subst e1
        have HM := Lib.hid (hmp l r j hlt hlt2)
        have HTK := Lib.hid (show l[j] = r[j] → l.take (j + 1) = r.take (j + 1) from fun e => by rw [List.take_succ_eq_append_getElem hlt, List.take_succ_eq_append_getElem hlt2, HBB.out.2, e])
        have hlt' : (j : Int) < (l.length : Int) := by omega
        have hlt2' : (j : Int) < (r.length : Int) := by omega
        clear hmp
        generalize l[j] = x at *
        generalize r[j] = y at *
        have hq : (x.s.toList == y.s.toList) = !(!decide (x = y)) := by
          by_cases h : x = y
          · subst h; simp
          · rw [decide_eq_false h]
            exact beq_false_of_ne fun e => h (key_eq.1 e)
        go_wp2_with fail
        have p0 := cell_regrown a0
        have q0 := cell_regrown b0
        clear a0 b0
        cases hE : (!decide (x = y))
        all_goals rw [hE] at hq
        all_goals have HE := Lib.hid hE
        all_goals clear hE
        all_goals
          refine wp_region_quiet_below (by kernel_rfl) (by kernel_rfl) ?_
          repeat (go_big_quiet_step (fail))
          refine wpQuiet_nil ?_
          intro w5 hw5
          obtain ⟨pp, rfl⟩ := hw5
          have HB5 := Lib.hid (below_regrown wr pp.d pp.os)
          clear hq
          generalize grow (redrawn wr pp.d) pp.os = W5 at HB5 ⊢
          go_wp2
        · go_roundw
          case rel => exact ⟨j + 1, by go_num, hlt, HBB.out.1.trans (HB5.out.mono HBB.out.1.size), HTK.out (by simpa using HE.out)⟩
          case measure => simp [intOf]; omega
        · go_ret
          exact ⟨ret_bool (HM.out (by simpa using HE.out)).symm, HBB.out.1.trans (HB5.out.mono HBB.out.1.size)⟩
      · obtain rfl : j = l.length := by omega
        have hT := HBB.out.2
        have hl := HLE.out
        rw [List.take_length, hl, List.take_length] at hT
        have HT := Lib.hid hT
        clear hT hl
        have hnl : ¬ ((l.length : Int) < (l.length : Int)) := by omega
        go_wp2
        go_ret
        exact ⟨ret_bool (decide_eq_true HT.out).symm, HBB.out.1⟩
  · have hli : ¬ (l.length : Int) = (r.length : Int) := by omega
    have hle : ((l.length : Int) != (r.length : Int)) = true := by simp; omega
    have hd : decide (l = r) = false := decide_eq_false fun e => hl (by rw [e])
    rw [hd]
    clear hl
    go_enter Try.func32, Try.ntmps32
    go_wp2
    go_ret
    exact ⟨rfl, Below.refl _ _⟩

set_option maxRecDepth 100000 in
set_option maxHeartbeats 2000000 in
theorem sameInts_any (A B : Option Addr) (c d n m : Nat) (l r : List Int) (w : World) (hna : n = l.length) (hnb : m = r.length) (ha : Rd w A n c (ints l)) (hb : Rd w B m d (ints r)) :
    Calls Try.prog 33 #[.slice A n c, .slice B m d] w fun e w' => e = .returned (.bool (decide (l = r))) ∧ Below w.heap.size w w' := by
  have HA := Lib.hid ha
  have HB := Lib.hid hb
  have hma := ha.mx
  have hmb := hb.mx
  subst hna
  subst hnb
  have hmp : ∀ {α : Type} [DecidableEq α] (l r : List α) (j : Nat) (h1 : j < l.length) (h2 : j < r.length), l[j] ≠ r[j] → decide (l = r) = false := fun l r j h1 h2 h => decide_eq_false fun e => by subst e; exact h rfl
  clear ha hb
  by_cases hl : l.length = r.length
  · have hli : (l.length : Int) = (r.length : Int) := by omega
    have hle : ((l.length : Int) != (r.length : Int)) = false := by simp [hl]
    have HLE := Lib.hid hl
    clear hl
    go_enter Try.func33, Try.ntmps33
    go_wp2
    clear hle hli
    go_loopw [5] (fun i wr => ∃ j : Nat, i = .int .i64 j ∧ j ≤ l.length ∧ Below w.heap.size w wr ∧ l.take j = r.take j) (fun i _ => l.length - (intOf i).toNat)
    case atStart => exact ⟨0, rfl, by omega, Below.refl _ _, rfl⟩
    case round =>
      obtain ⟨j, rfl, hj, hBB, hT⟩ := hrel
      have HBB := Lib.hid (And.intro hBB hT)
      clear hBB hT
      by_cases hlt : j < l.length
      · have hlt2 : j < r.length := by have := HLE.out; omega
        obtain ⟨ad, e0, a0⟩ := (HA.out.below HBB.out.1).at_ (show (ints l)[j]? = some (.int .i64 l[j]) by simp [ints, hlt])
        obtain ⟨bd, e1, b0⟩ := (HB.out.below HBB.out.1).at_ (show (ints r)[j]? = some (.int .i64 r[j]) by simp [ints, hlt2])
        subst e0
        subst e1
        have HM := Lib.hid (hmp l r j hlt hlt2)
        have HTK := Lib.hid (show l[j] = r[j] → l.take (j + 1) = r.take (j + 1) from fun e => by rw [List.take_succ_eq_append_getElem hlt, List.take_succ_eq_append_getElem hlt2, HBB.out.2, e])
        have hlt' : (j : Int) < (l.length : Int) := by omega
        have hlt2' : (j : Int) < (r.length : Int) := by omega
        clear hmp
        generalize l[j] = x at *
        generalize r[j] = y at *
        have hq : (x != y) = !decide (x = y) := by
          by_cases h : x = y
          · subst h; simp
          · rw [decide_eq_false h]
            exact bne_iff_ne.2 h
        go_wp2_with fail
        have p0 := cell_regrown a0
        have q0 := cell_regrown b0
        clear a0 b0
        cases hE : (!decide (x = y))
        all_goals rw [hE] at hq
        all_goals have HE := Lib.hid hE
        all_goals clear hE
        all_goals
          refine wp_region_quiet_below (by kernel_rfl) (by kernel_rfl) ?_
          repeat (go_big_quiet_step (fail))
          refine wpQuiet_nil ?_
          intro w5 hw5
          obtain ⟨pp, rfl⟩ := hw5
          have HB5 := Lib.hid (below_regrown wr pp.d pp.os)
          clear hq
          generalize grow (redrawn wr pp.d) pp.os = W5 at HB5 ⊢
          go_wp2
        · go_roundw
          case rel => exact ⟨j + 1, by go_num, hlt, HBB.out.1.trans (HB5.out.mono HBB.out.1.size), HTK.out (by simpa using HE.out)⟩
          case measure => simp [intOf]; omega
        · go_ret
          exact ⟨ret_bool (HM.out (by simpa using HE.out)).symm, HBB.out.1.trans (HB5.out.mono HBB.out.1.size)⟩
      · obtain rfl : j = l.length := by omega
        have hT := HBB.out.2
        have hl := HLE.out
        rw [List.take_length, hl, List.take_length] at hT
        have HT := Lib.hid hT
        clear hT hl
        have hnl : ¬ ((l.length : Int) < (l.length : Int)) := by omega
        go_wp2
        go_ret
        exact ⟨ret_bool (decide_eq_true HT.out).symm, HBB.out.1⟩
  · have hli : ¬ (l.length : Int) = (r.length : Int) := by omega
    have hle : ((l.length : Int) != (r.length : Int)) = true := by simp; omega
    have hd : decide (l = r) = false := decide_eq_false fun e => hl (by rw [e])
    rw [hd]
    clear hl
    go_enter Try.func33, Try.ntmps33
    go_wp2
    go_ret
    exact ⟨rfl, Below.refl _ _⟩
/-- Two states are read as the same: Stays answers 0. -/
theorem two_cells {w : World} {b : Nat} {v : Value} {r : Int} {T : TypeId} (h : w.heap[b]? = some (.cells #[v, .int .i64 r] T (0, 0))) : w.cell? ⟨b, 0, none⟩ = some v ∧ w.cell? ⟨b, 1, none⟩ = some (.int .i64 r) := by
  refine ⟨?_, ?_⟩ <;> simp [World.cell?, h]
theorem new_fst (w : World) (o p : Obj) : ((w.alloc o).alloc p).drew.heap[w.heap.size]? = some o := (Below.heap_alloc (w.alloc o) p w.heap.size (by simp)).trans (heap_alloc_new w o)
theorem new_snd (w : World) (o p : Obj) : ((w.alloc o).alloc p).drew.heap[w.heap.size + 1]? = some p := by
  have := heap_alloc_new (w.alloc o) p
  rw [World.size_alloc] at this
  exact this
set_option maxRecDepth 100000 in
set_option maxHeartbeats 4000000 in
theorem stays_any (nodes : List Nd) (n c d : Nat) (A B : Option Addr) (root : Int) (w : World) (hA : RdS w A n nodes) (hB : RdS w B n nodes) :
    Calls Try.prog 19 #[.agg #[.slice A n c, .int .i64 root], .agg #[.slice B n d, .int .i64 root]] w fun e w' => e = .returned (.int .i64 0) ∧ Below w.heap.size w w' := by
  have hn := hA.len
  have hmax := hA.max
  have hb2 := below2 w (.cells #[.slice A n c, .int .i64 root] 27) (.cells #[.slice B n d, .int .i64 root] 24)
  have hp0 : ((w.alloc (.cells #[.slice A n c, .int .i64 root] 27)).alloc (.cells #[.slice B n d, .int .i64 root] 24)).heap[w.heap.size]? = some (.cells #[.slice A n c, .int .i64 root] 27 (0, 0)) := (Below.heap_alloc _ _ _ (by simp)).trans (heap_alloc_new w _)
  have hp1 : ((w.alloc (.cells #[.slice A n c, .int .i64 root] 27)).alloc (.cells #[.slice B n d, .int .i64 root] 24)).heap[w.heap.size + 1]? = some (.cells #[.slice B n d, .int .i64 root] 24 (0, 0)) := by
    have := heap_alloc_new (w.alloc (.cells #[.slice A n c, .int .i64 root] 27)) (.cells #[.slice B n d, .int .i64 root] 24)
    rw [World.size_alloc] at this
    exact this
  have HA := Lib.hid hA
  have HB := Lib.hid hB
  have HP := Lib.hid (And.intro hp0 hp1)
  have HB2 := Lib.hid hb2
  clear hA hB hp0 hp1 hb2
  subst hn
  go_enter Try.func19, Try.ntmps19
  go_upto_region 1 with fail
  generalize (w.alloc (.cells #[.slice A nodes.length c, .int .i64 root] 27)).alloc (.cells #[.slice B nodes.length d, .int .i64 root] 24) = W0 at *
  generalize w.heap.size + 1 = b1 at *
  obtain ⟨y0, y1⟩ := two_cells HP.out.1
  obtain ⟨z0, z1⟩ := two_cells HP.out.2
  go_wp2
  clear y0 y1 z0 z1
  go_loopw [5] (fun i wr => ∃ j : Nat, i = .int .i64 j ∧ j ≤ nodes.length ∧ Below W0.heap.size W0 wr) (fun i _ => nodes.length - (intOf i).toNat)
  case atStart => exact ⟨0, rfl, by omega, Below.refl _ _⟩
  case round =>
    obtain ⟨j, rfl, hj, hB0⟩ := hrel
    obtain ⟨y0, y1⟩ := two_cells ((hB0.block _ (heap_lt HP.out.1)).trans HP.out.1)
    obtain ⟨z0, z1⟩ := two_cells ((hB0.block _ (heap_lt HP.out.2)).trans HP.out.2)
    have hBw : Below w.heap.size w wr := thn HB2.out hB0
    have HBW := Lib.hid hBw
    have HB0 := Lib.hid hB0
    by_cases hlt : j < nodes.length
    · have hlt' : (j : Int) < (nodes.length : Int) := by omega
      have hwj : IntKind.i64.wrap ((j : Int) + 1) = (j : Int) + 1 := IntWalk.i64_in _ (by omega)
      obtain ⟨ad, h, rfl, hX⟩ := (HA.out.below hBw).at_ j nodes[j] (List.getElem?_eq_getElem hlt)
      obtain ⟨bd, g, rfl, hY⟩ := (HB.out.below hBw).at_ j nodes[j] (List.getElem?_eq_getElem hlt)
      generalize nodes[j] = x at *
      obtain ⟨x0, x1, x2, xk, xv, xc⟩ := hX
      obtain ⟨u0, u1, u2, uk, uv, uc⟩ := hY
      have HXK := Lib.hid (And.intro xk (And.intro xv xc))
      have HUK := Lib.hid (And.intro uk (And.intro uv uc))
      have hx1 := cell_lt x0
      have hx2 := hx1
      rw [add_block] at hx2
      have hu1 := cell_lt u0
      have hu2 := hu1
      rw [add_block] at hu2
      have hy1 := cell_lt y0
      have hz1 := cell_lt z0
      clear xk xv xc uk uv uc hBw hB0
      go_upto_region 6 with fail
      go_cut [6, 7] (fun p q wx => ∃ b6 b7 : Nat, p = ptr b6 ∧ q = ptr b7 ∧ Below wr.heap.size wr wx ∧ wx.heap[b6]? = some (.cells #[.slice h.kA x.ks.length h.kc, .slice h.vA x.vs.length h.vc, .slice h.cA x.kids.length h.cc] 66 (0, 0)) ∧ wx.heap[b7]? = some (.cells #[.slice g.kA x.ks.length g.kc, .slice g.vA x.vs.length g.vc, .slice g.cA x.kids.length g.cc] 65 (0, 0)))
      case first =>
        go_region
        all_goals
          go_wp2
          go_meet
          first
            | exact ⟨wr.heap.size, wr.heap.size + 1, rfl, rfl, (below2 wr _ _).drew, new_fst wr _ _, new_snd wr _ _⟩
            | exact ⟨wr.heap.size + 1, wr.heap.size, rfl, rfl, (below2 wr _ _).drew, new_snd wr _ _, new_fst wr _ _⟩
      case rest =>
        obtain ⟨b6, b7, rfl, rfl, hb6, q6, q7⟩ := hcut
        obtain ⟨p0, p1, p2, _⟩ := three_of q6
        obtain ⟨q0, q1, q2, _⟩ := three_of q7
        have hs := sameStrs_any h.kA g.kA h.kc g.kc _ _ x.ks x.ks wc rfl rfl (HXK.out.1.below hb6) (HUK.out.1.below hb6)
        rw [decide_eq_true rfl] at hs
        have HSK := Lib.hid hs
        have HB6 := Lib.hid hb6
        clear hb6 q6 q7 hs x0 x1 x2 u0 u1 u2 hx1 hx2 hu1 hu2 hy1 hz1 y0 y1 z0 z1
        go_wp2_with (first
          | (go_at_call 33; (with_reducible refine HSI.out.mono ?_); rintro e w7 ⟨rfl, hb7⟩; have HB8 := Lib.hid (HBW.out.trans (((HB6.out.trans (HB7.out.mono HB6.out.size)).trans (hb7.mono (Nat.le_trans HB6.out.size HB7.out.size))).mono HBW.out.size)); have HB9 := Lib.hid (HB0.out.trans (((HB6.out.trans (HB7.out.mono HB6.out.size)).trans (hb7.mono (Nat.le_trans HB6.out.size HB7.out.size))).mono HB0.out.size)); clear hb7)
          | (go_at_call 32; (with_reducible refine HSV.out.mono ?_); rintro e w6 ⟨rfl, hb6⟩; have p2 := cell_keep p2 hb6; have q2 := cell_keep q2 hb6; have hs := sameInts_any h.cA g.cA h.cc g.cc _ _ x.kids x.kids w6 rfl rfl (((HXK.out.2.2.below HB6.out).below HB5.out).below hb6) (((HUK.out.2.2.below HB6.out).below HB5.out).below hb6); rw [decide_eq_true rfl] at hs; have HSI := Lib.hid hs; have HB7 := Lib.hid (HB5.out.trans (hb6.mono HB5.out.size)); clear hb6 hs)
          | (go_at_call 32; (with_reducible refine HSK.out.mono ?_); rintro e w5 ⟨rfl, hb5⟩; have p1 := cell_keep p1 hb5; have p2 := cell_keep p2 hb5; have q1 := cell_keep q1 hb5; have q2 := cell_keep q2 hb5; have hs := sameStrs_any h.vA g.vA h.vc g.vc _ _ x.vs x.vs w5 rfl rfl ((HXK.out.2.1.below HB6.out).below hb5) ((HUK.out.2.1.below HB6.out).below hb5); rw [decide_eq_true rfl] at hs; have HSV := Lib.hid hs; have HB5 := Lib.hid hb5; clear hb5 hs))
        go_roundw
        case rel => exact ⟨j + 1, by go_num, hlt, HB9.out⟩
        case measure => simp [intOf]; omega
    · obtain rfl : j = nodes.length := by omega
      have hlt' : ¬ ((nodes.length : Int) < (nodes.length : Int)) := by omega
      go_wp2
      go_ret
      exact ⟨rfl, HBW.out⟩
end Go.Proofs.Ytkpjkglheegmgaa
