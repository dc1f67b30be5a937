/- What the iterator over a statement's expressions hands out: the walks of slices.Clone and of the iterator. Conditions: a statement that is read in memory; few rows and new values. -/
import Derived.RangeFuncNested
import Derived.RangeFuncBound
import Derived.RangeFuncCalls
import Derived.RangeFuncLeaves
import Derived.RangeFuncBox
import Derived.Shelf.Abstract
import Derived.Shelf.RegionOpen
import Derived.WalkKit
import Derived.OwnWalkIn
import Derived.TacticsInMore
import Derived.LoopNIn
import Derived.LoopIn
import Derived.Maps.AppendAt
import Derived.Test.YtipcacplphidhaaGreatCa
import Derived.Test.YtipcacplphidhaaGreatTd
namespace Go.Proofs.YtipcacplphidhaaGreat.Sy
open Go.RowKit Go.Shelf
set_option linter.unusedSimpArgs false
set_option linter.unusedVariables false
attribute [local go_sem] Oper.semAt_some

theorem Tryz.infoLs : (Tryz.prog.info? 28).map (fun i => (i.zero, i.size, i.bytes)) = some (some (.slice none 0 0), 1, 24) := by kernel_rfl
theorem own_empty {w : World} {B : Nat} (hB : B ≤ w.heap.size) : (w.alloc (.cells #[] 28)).ownsRow B 28 1 (.slice (some ⟨w.heap.size, 0, none⟩) 0 0) 0 [] :=
  ⟨rfl, .inr ⟨w.heap.size, 0, #[], rfl, hB, heap_alloc_new w _, Nat.le_refl _, by unfold maxLen; omega, rfl, rfl⟩⟩
set_option maxHeartbeats 1000000 in
set_option maxRecDepth 100000 in
theorem clone_rows (A : Option Addr) (n c B : Nat) (vals : List Value) (w : World) (hB : B ≤ w.heap.size) (hd : Hdr A n c) (hl : vals.length = n) (hbn : n * 24 ≤ 140737488355328) (h1 : ∀ u ∈ vals, u.oneCell' = true)
    (hc : ∀ ad, A = some ad → ∀ (j : Nat) (u : Value), vals[j]? = some u → w.cell? (ad.add j) = some u) :
    Calls Tryz.prog 75 #[.slice A n c] w fun e w' => ∃ v, e = .returned v ∧ w'.ownsRow B 28 1 v n vals ∧ Below B w w' := by
  rcases A with _ | ad
  · obtain ⟨rfl, rfl⟩ := hd.1 rfl
    have : vals = [] := List.eq_nil_of_length_eq_zero hl
    subst this
    have he : ∀ w, (binOp .eql 26 (.slice none 0 0) (.slice none 0 0)).run Tryz.prog w = .ok (.bool true) w := fun _ => by kernel_rfl
    go_enter Tryz.func75, Tryz.ntmps75
    go_wp2
    go_ret
    exact ⟨_, rfl, World.ownsRow_nil _ _ _ _, Below.refl _ _⟩
  · obtain ⟨i0, hi, hz0, hz1, hz2⟩ := info_parts Tryz.infoLs
    have he : ∀ w, (binOp .eql 26 (.slice (some ad) n c) (.slice none 0 0)).run Tryz.prog w = .ok (.bool false) w := fun _ => rfl
    have HC := Lib.hid (hc ad rfl)
    have H1 := Lib.hid h1
    have hmx : n ≤ maxLen := by have := hd.2; unfold maxLen; omega
    clear hc h1 hd
    go_enter Tryz.func75, Tryz.ntmps75
    go_wp2_with (at_builtin; refine wpList_append_own _ rfl _ _ 26 rfl B 28 i0 (.slice none 0 0) 1 24 Tryz.underlying26 hi hz0 hz1 hz2 rfl (by decide) _ 0 [] rfl (own_empty hB) ad n c vals rfl (by rw [hl, Nat.mul_one]) (fun j u hu => cell_keep (HC.out j u hu) (below1 w _)) H1.out (by rw [Nat.zero_add]; exact hmx) (by rw [Nat.zero_add]; exact hbn) (by simp; omega) ?_; intro v' w1 hown' hgrow _)
    rw [Nat.zero_add, List.nil_append] at hown'
    have hB1 : Below B w w1 := ((Below.refl B w).alloc hB _).grown hgrow (by simp; omega) fun k hk => ((own_empty hB).lt k hk).1
    go_wp2
    go_ret
    exact ⟨_, rfl, hown', hB1⟩

/-- A slice of one expression of the call's own. -/
def Single (w : World) (s : Sl) (e : Ge) : Prop := ∃ g, s = ⟨some ⟨g, 0, none⟩, 1, [e]⟩ ∧ w.heap[g]? = some (.cells e.cs.toArray 62 (0, 0))
theorem Single.kept {w w' : World} {s : Sl} {e : Ge} {B n : Nat} {v : Value} {xs : List Value} (h : Single w s e) (ho : w.ownsRow B 28 1 v n xs) (hg : w.grownBy w' v.ownBlock) : Single w' s e := by
  obtain ⟨g, hs, hh⟩ := h
  refine ⟨g, hs, (hg.block g ?_ ?_).trans hh⟩
  · rcases Nat.lt_or_ge g w.heap.size with h' | h'
    · exact h'
    · rw [Array.getElem?_eq_none h'] at hh; cases hh
  · intro e
    rcases ho.2 with ⟨rfl, _⟩ | ⟨g', cap, cur, rfl, _, hgg, _⟩
    · simp [Value.ownBlock] at e
    · simp [Value.ownBlock] at e
      subst e
      rw [hh] at hgg
      injection hgg with hgg
      injection hgg with _ h2 _
      exact absurd h2 (by decide)
theorem Single.below {w w' : World} {s : Sl} {e : Ge} (h : Single w s e) (hb : Below w.heap.size w w') : Single w' s e := by
  obtain ⟨g, hs, hh⟩ := h
  refine ⟨g, hs, (hb.block g ?_).trans hh⟩
  rcases Nat.lt_or_ge g w.heap.size with h' | h'
  · exact h'
  · rw [Array.getElem?_eq_none h'] at hh; cases hh
theorem Single.at_ {w : World} {s : Sl} {e : Ge} (h : Single w s e) : LsAt w s.A s.es := by
  obtain ⟨g, rfl, hh⟩ := h
  intro ad ha j y hy i v hv
  injection ha with ha
  subst ha
  match j, hy with
  | 0, hy =>
    injection hy with hy
    subst hy
    have e2 : (⟨g, 0, none⟩ : Addr).add (0 * 7 + i) = ⟨g, i, none⟩ := by unfold Addr.add; split <;> simp_all
    rw [e2]
    simp [World.cell?, hh, hv]

theorem own_pos {w : World} {base n : Nat} {e : TypeId} {v : Value} {xs : List Value} (h : w.ownsRow base e 1 v n xs) (hn : 0 < n) : ∃ g c, v = .slice (some ⟨g, 0, none⟩) n c := by
  rcases h.2 with ⟨_, h0⟩ | ⟨g, cap, cur, hv, _⟩
  · omega
  · exact ⟨g, cap, hv⟩
theorem singles_flat : ∀ (ss : List Sl) (es : List Ge), ss.length = es.length → (∀ (k : Nat) (e : Ge), es[k]? = some e → ∃ s, ss[k]? = some s ∧ s.es = [e]) → ss.flatMap Sl.es = es
  | [], es, h, _ => by rw [List.eq_nil_of_length_eq_zero (l := es) (by simpa using h.symm)]; rfl
  | s :: ss, es, h, hp => by
    match es, h with
    | e :: es, h =>
      obtain ⟨s', h1, h2⟩ := hp 0 e rfl
      injection h1 with h1; subst h1
      rw [List.flatMap_cons, h2, singles_flat ss es (by simpa using h) fun k e he => by
        obtain ⟨s2, h3, h4⟩ := hp (k + 1) e (by simpa using he)
        exact ⟨s2, by simpa using h3, h4⟩]
      rfl
/-- The first n₀ blocks' own expression. -/
abbrev GeR (B : Nat) (w : World) : Type := { e : Ge // e.Rd B w }
theorem val_one {ss : List Sl} : ∀ u ∈ ss.map Sl.val, u.oneCell' = true := by
  intro u hu
  obtain ⟨s, _, rfl⟩ := List.mem_map.1 hu
  rfl

set_option maxHeartbeats 8000000 in
set_option maxRecDepth 100000 in
/-- The lists, built. -/
theorem iter_walk (B g : Nat) (w W : World) (rS : List Sl) (sG : List Ge) (it on wh gr : Sl) (aR aS : Option Addr) (cR cS : Nat) (all : List (GeR B w)) (hall : all.map (·.1) = rS.flatMap Sl.es ++ (sG ++ (it.es ++ (on.es ++ (wh.es ++ gr.es)))))
    (hB : B ≤ W.heap.size) (hbox : ∃ (k0 k13 : Int) (t1 t3 t4 t8 : ByteArray) (v2 v12 : Value), W.cell? ⟨g, 5, none⟩ = some (.slice aR rS.length cR) ∧ W.cell? ⟨g, 6, none⟩ = some (.slice aS sG.length cS) ∧ W.cell? ⟨g, 7, none⟩ = some it.val ∧ W.cell? ⟨g, 9, none⟩ = some on.val ∧ W.cell? ⟨g, 10, none⟩ = some wh.val ∧ W.cell? ⟨g, 11, none⟩ = some gr.val) (hgW : g < W.heap.size)
    (hR : Hdr aR rS.length cR) (hRc : ∀ ad, aR = some ad → ∀ (j : Nat) (u : Value), (rS.map Sl.val)[j]? = some u → W.cell? (ad.add j) = some u) (hr16 : rS.length ≤ 16) (hs8 : sG.length ≤ 8) (hS : Hdr aS sG.length cS)
    (hSc : ∀ (j : Nat) (e : Ge), sG[j]? = some e → ∃ (ad : Addr) (m : ByteArray), aS = some ad ∧ ad.block < W.heap.size ∧ ∀ (i : Nat) (v : Value), (Value.string m :: e.cs)[i]? = some v → W.cell? (ad.add (j * 8 + i)) = some v)
    (hok : ∀ s, s ∈ rS ∨ s = it ∨ s = on ∨ s = wh ∨ s = gr → Hdr s.A s.es.length s.c ∧ LsAt W s.A s.es)
    (l : Nat) (J Jx : List (GeR B w) → World → Prop) (hJ : AbidesFrom W.heap.size J)
    (hY : ∀ pre (x : GeR B w) W1, J pre W1 → pre.length < all.length → YieldAt Fence.wide 1 Tryz.prog l #[x.1.val] W1 fun e W' => (e = .returned (.bool true) ∧ J (pre ++ [x]) W' ∧ KpB B W1 W') ∨ (e = .returned (.bool false) ∧ Jx (pre ++ [x]) W')) (h0 : J [] W) :
    CallsIn Fence.wide 2 Tryz.prog 74 #[.func (.yield l) #[] #[], .pointer (some ⟨g, 0, none⟩)] W fun e W' => (∃ v, e = .returned v) ∧ ((∃ xs, xs = all ∧ J xs W') ∨ (∃ pre, pre <+: all ∧ Jx pre W')) := by
  obtain ⟨_, _, _, _, _, _, _, _, h5, h6, h7, h9, h10, h11⟩ := hbox
  obtain ⟨i0, hi, hz0, hz1, hz2⟩ := info_parts Tryz.infoLs
  have hCl := callsIn_wide (n := 1).2 (clone_rows aR rS.length cR W.heap.size (rS.map Sl.val) W (Nat.le_refl _) hR (by simp) (by omega) val_one hRc)
  have HY := Lib.hid hY
  have HOK := Lib.hid hok
  have HSC := Lib.hid hSc
  have HALL := Lib.hid hall
  have HJ := Lib.hid hJ
  have HJ0 := Lib.hid h0
  have hsl : sG.length ≤ 9223372036854775807 := by omega
  clear hY hok hSc hall hRc h0 hJ
  refine callsIn_of_wp Tryz.func74 rfl trivial ?_ rfl
  simp only [Tryz.ntmps74, List.size_toArray, List.length_cons, List.length_nil, Nat.reduceAdd, Nat.reduceSub, Array.replicate_succ, Array.replicate_zero, List.push_toArray, List.append_toArray, List.nil_append, List.cons_append]
  gi_wp2_with (refine ⟨trivial, ?_⟩; gi_at_call 75; refine hCl.mono ?_; rintro e w1 ⟨v, rfl, hown, hb⟩; have k6 := cell_keep h6 hb)
  gi_loopw [3, 16] (fun lv iv wr => ∃ (j : Nat) (ss : List Sl), j ≤ sG.length ∧ iv = .int .i64 j ∧ wr.ownsRow W.heap.size 28 1 lv (rS.length + j) ((rS ++ ss).map Sl.val) ∧ Below W.heap.size W wr ∧ ss.length = j ∧ ∀ (k : Nat) (e : Ge), (sG.take j)[k]? = some e → ∃ s, ss[k]? = some s ∧ Single wr s e) (fun _ iv _ => sG.length - (intOf iv).toNat)
  case atStart => exact ⟨0, [], by omega, rfl, by simpa using hown, hb, rfl, fun k e h => by simp at h⟩
  case round =>
    obtain ⟨j, ss, hj, rfl, hwn, hbr, hsl2, hsn⟩ := hrel
    have HW := Lib.hid hwn
    have HBR := Lib.hid hbr
    have HSN := Lib.hid hsn
    have HSL := Lib.hid hsl2
    clear hsn hsl2
    by_cases hlt : j < sG.length
    · have hx : sG[j]? = some sG[j] := List.getElem?_eq_getElem hlt
      obtain ⟨ad, m, hA, hadl, hcl⟩ := HSC.out j _ hx
      subst hA
      generalize sG[j] = e at hcl hx
      have HE := Lib.hid hx
      clear hx
      have hcw : ∀ (i : Nat) (v : Value), (Value.string m :: e.cs)[i]? = some v → wr.cell? (ad.add (j * 8 + i)) = some v := fun i v hv => (hbr.cell (by rw [add_block]; exact hadl)).trans (hcl i v hv)
      have hadr := Nat.lt_of_lt_of_le hadl hbr.size
      clear hcl hwn hbr
      obtain ⟨n', ⟨op, ⟨k, m', s, hv⟩, t, nm, ls⟩, a', c'⟩ := e
      have p0 : wr.cell? (ad.add (j * 8)) = some (.string m) := hcw 0 _ rfl
      have p1 : wr.cell? ⟨(ad.add (j * 8)).block, (ad.add (j * 8)).off + 1, none⟩ = some (.int .i64 op) := by rw [← add_two _ _ (by omega)]; exact hcw 1 _ rfl
      have p2 : wr.cell? ⟨(ad.add (j * 8)).block, (ad.add (j * 8)).off + 2, none⟩ = some (.int .i64 k) := by rw [← add_two _ _ (by omega)]; exact hcw 2 _ rfl
      have p3 : wr.cell? ⟨(ad.add (j * 8)).block, (ad.add (j * 8)).off + 3, none⟩ = some (.int .i64 m') := by rw [← add_two _ _ (by omega)]; exact hcw 3 _ rfl
      have p4 : wr.cell? ⟨(ad.add (j * 8)).block, (ad.add (j * 8)).off + 4, none⟩ = some (.string s) := by rw [← add_two _ _ (by omega)]; exact hcw 4 _ rfl
      have p5 : wr.cell? ⟨(ad.add (j * 8)).block, (ad.add (j * 8)).off + 5, none⟩ = some (.string t) := by rw [← add_two _ _ (by omega)]; exact hcw 5 _ rfl
      have p6 : wr.cell? ⟨(ad.add (j * 8)).block, (ad.add (j * 8)).off + 6, none⟩ = some (.string nm) := by rw [← add_two _ _ (by omega)]; exact hcw 6 _ rfl
      have p7 : wr.cell? ⟨(ad.add (j * 8)).block, (ad.add (j * 8)).off + 7, none⟩ = some (.slice a' ls.length c') := by rw [← add_two _ _ (by omega)]; exact hcw 7 _ rfl
      clear hcw
      have hnc : ∀ (o1 o2 : Obj) (u : Value) (j : Nat) (v : Value), [u][j]? = some v → (((wr.alloc o1).alloc o2).alloc (.cells #[u] 28)).cell? ((⟨wr.heap.size + 1 + 1, 0, none⟩ : Addr).add j) = some v := fun o1 o2 u j v h => by
        have h2 := new_cells ((wr.alloc o1).alloc o2) 28 [u] j v h
        simpa only [World.size_alloc] using h2
      gi_wp2_with (gi_at_builtin; refine wpListIn_append_own _ rfl _ _ 26 rfl W.heap.size 28 i0 (.slice none 0 0) 1 24 Tryz.underlying26 hi hz0 hz1 hz2 rfl (by decide) _ (rS.length + j) ((rS ++ ss).map Sl.val) rfl (((HW.out.alloc _).alloc _).alloc _) ⟨wr.heap.size + 1 + 1, 0, none⟩ 1 1 [.slice (some ⟨wr.heap.size + 1, 0, none⟩) 1 1] rfl rfl (hnc _ _ _) (by simp [Value.oneCell']) (by unfold maxLen; omega) (by omega) (by have := HBR.out.size; simp; omega) ?_; intro v' w2 hown' hgrow _)
      have hs1 : w2.heap[wr.heap.size + 1]? = some (.cells #[.int .i64 op, .int .i64 k, .int .i64 m', .string s, .string t, .string nm, .slice a' ls.length c'] 62 (0, 0)) :=
        (hgrow.block _ (by simp) (fun e => by have := (HW.out.lt _ e.symm).2; omega)).trans ((Below.heap_alloc _ _ _ (by simp)).trans (heap_two wr _ _))
      have hB2 := (((HBR.out.alloc HBR.out.size _).alloc (by have := HBR.out.size; simp; omega) _).alloc (by have := HBR.out.size; simp; omega) _).grown hgrow (by have := HBR.out.size; simp; omega) (fun k hk => (HW.out.lt k hk).1)
      have hold : ∀ (s : Sl) (e : Ge), Single wr s e → Single w2 s e := fun s e h => (h.below (below3 wr _ _ _)).kept (((HW.out.alloc _).alloc _).alloc _) hgrow
      have HG := Lib.hid hs1
      have HB2 := Lib.hid hB2
      have HO := Lib.hid hold
      have HN := Lib.hid hown'
      clear hs1 hB2 hold hown' hgrow hnc p0 p1 p2 p3 p4 p5 p6 p7
      go_roundw
      case rel =>
        refine ⟨j + 1, ss ++ [⟨some ⟨wr.heap.size + 1, 0, none⟩, 1, [⟨n', ⟨op, ⟨k, m', s, hv⟩, t, nm, ls⟩, a', c'⟩]⟩], by omega, by go_num, ?_, HB2.out, by simp [HSL.out], fun k2 e2 he => ?_⟩
        · have h := HN.out
          rw [← List.append_assoc, List.map_append (l₁ := rS ++ ss)]
          exact h
        · rw [List.take_add_one, HE.out] at he
          rcases Nat.lt_or_ge k2 j with h1 | h1
          · rw [List.getElem?_append_left (by rw [List.length_take]; omega)] at he
            obtain ⟨s', h2, h3⟩ := HSN.out k2 e2 he
            exact ⟨s', by rw [List.getElem?_append_left (by rw [HSL.out]; exact h1)]; exact h2, HO.out s' e2 h3⟩
          · rw [List.getElem?_append_right (by rw [List.length_take]; omega), List.length_take, Nat.min_eq_left (by omega)] at he
            have hk2 : k2 - j = 0 := by
              rcases Nat.eq_zero_or_pos (k2 - j) with h | h
              · exact h
              · rw [List.getElem?_eq_none (by simp; omega)] at he; cases he
            rw [hk2] at he
            injection he with he
            subst he
            refine ⟨_, by rw [List.getElem?_append_right (by rw [HSL.out]; exact h1), HSL.out, hk2]; rfl, _, rfl, HG.out⟩
      case measure => simp [intOf]; omega
    · have hjl : j = sG.length := by omega
      subst hjl
      have q7 := cell_keep h7 hbr
      have q9 := cell_keep h9 hbr
      have q10 := cell_keep h10 hbr
      have q11 := cell_keep h11 hbr
      have hgr := Nat.lt_of_lt_of_le hgW hbr.size
      clear hbr
      gi_wp2_with (gi_at_builtin; refine wpListIn_append_own _ rfl _ _ 26 rfl W.heap.size 28 i0 (.slice none 0 0) 1 24 Tryz.underlying26 hi hz0 hz1 hz2 rfl (by decide) _ (rS.length + sG.length) ((rS ++ ss).map Sl.val) rfl (HW.out.alloc _) ⟨wr.heap.size, 0, none⟩ 4 4 [it.val, on.val, wh.val, gr.val] rfl rfl (new_cells wr 28 [it.val, on.val, wh.val, gr.val]) (by simp [Value.oneCell']) (by unfold maxLen; omega) (by omega) (by have := HBR.out.size; simp; omega) ?_; intro v' w2 hown' hgrow _; obtain ⟨g1, c1, rfl⟩ := own_pos hown' (by omega))
      have hB2 := (HBR.out.alloc HBR.out.size _).grown hgrow (by have := HBR.out.size; simp; omega) (fun k hk => (HW.out.lt k hk).1)
      have hold : ∀ (s : Sl) (e : Ge), Single wr s e → Single w2 s e := fun s e h => (h.below (below1 wr _)).kept (HW.out.alloc _) hgrow
      have hsn := HSN.out
      rw [List.take_length] at hsn
      have hflat : ss.flatMap Sl.es = sG := singles_flat ss sG HSL.out fun k e he => by
        obtain ⟨s, h1, g2, rfl, _⟩ := hsn k e he
        exact ⟨_, h1, rfl⟩
      have hsok : ∀ s ∈ ss, Hdr s.A s.es.length s.c ∧ LsAt w2 s.A s.es := fun s hs => by
        obtain ⟨k, hk⟩ := List.getElem?_of_mem hs
        have hkl := (List.getElem?_eq_some_iff.1 hk).1
        obtain ⟨s', h1, h2⟩ := hsn k _ (List.getElem?_eq_getElem (by rw [← HSL.out]; exact hkl))
        rw [hk] at h1
        injection h1 with h1
        subst h1
        have h3 := (hold _ _ h2).at_
        obtain ⟨g2, rfl, _⟩ := h2
        exact ⟨⟨(fun e => by cases e), Nat.le_refl _, (by show (1 : Nat) ≤ 9223372036854775807; omega)⟩, h3⟩
      obtain ⟨LL, hLL⟩ : ∃ LL, LL = rS ++ ss ++ [it, on, wh, gr] := ⟨_, rfl⟩
      have hLlen : LL.length = rS.length + sG.length + 4 := by rw [hLL]; simp [HSL.out]; omega
      have hLok : ∀ s ∈ LL, Hdr s.A s.es.length s.c ∧ LsAt w2 s.A s.es := fun s hs => by
        rw [hLL] at hs
        simp only [List.mem_append, List.mem_cons, List.mem_nil_iff, or_false] at hs
        rcases hs with (hs | hs) | hs
        · exact ⟨(HOK.out s (.inl hs)).1, (HOK.out s (.inl hs)).2.kc (Kcl.below hB2)⟩
        · exact hsok s hs
        · exact ⟨(HOK.out s (.inr hs)).1, (HOK.out s (.inr hs)).2.kc (Kcl.below hB2)⟩
      have hLall : all.map (·.1) = LL.flatMap Sl.es := by
        rw [HALL.out, hLL]
        simp [List.flatMap_append, hflat]
      have hLcell : ∀ (j : Nat) (s : Sl), LL[j]? = some s → w2.cell? ((⟨g1, 0, none⟩ : Addr).add j) = some s.val := fun j s hs => by
        refine hown'.cells (g := g1) rfl j s.val ?_
        have : (LL.map Sl.val)[j]? = some s.val := by rw [List.getElem?_map, hs]; rfl
        rw [hLL, List.map_append] at this
        exact this
      have hJ1 : J [] w2 := HJ.out _ _ _ none HJ0.out ⟨hB2.os, hB2.tape, hB2.output, hB2.size, fun k hk _ => hB2.block k hk⟩ (fun r e => by cases e)
      have HLok := Lib.hid hLok
      have HLall := Lib.hid hLall
      have HLcell := Lib.hid hLcell
      have HJ1 := Lib.hid hJ1
      have HLlen := Lib.hid hLlen
      clear hB2 hold hsn hflat hsok hLL hLlen hLok hLall hLcell hJ1 hown' hgrow q7 q9 q10 q11 HW HBR HSN HSL HOK HALL hCl HSC h5 h6 h7 h9 h10 h11 k6 hown hb
      have hn4 : rS.length + sG.length + 4 ≤ 9223372036854775807 := by omega
      rw [show ((rS.length : Int) + (sG.length : Int) + 4) = ((rS.length + sG.length + 4 : Nat) : Int) by simp]
      generalize rS.length + sG.length + 4 = N4 at *
      gi_loopw [40] (fun iv wq => ∃ j : Nat, j ≤ N4 ∧ iv = .int .i64 j ∧ J (all.take ((LL.take j).flatMap Sl.es).length) wq ∧ Kcl w2 wq) (fun iv _ => N4 - (intOf iv).toNat)
      case atStart => exact ⟨0, by omega, rfl, by simpa using HJ1.out, Kcl.refl _⟩
      case round =>
        obtain ⟨j, hj, rfl, hJq, hkq⟩ := hrel
        have HJq := Lib.hid hJq
        have HKq := Lib.hid hkq
        clear hJq hkq
        by_cases hlt : j < N4
        · have hx : LL[j]? = some (LL[j]'(by rw [HLlen.out]; exact hlt)) := List.getElem?_eq_getElem _
          generalize LL[j]'(by rw [HLlen.out]; exact hlt) = sl at hx
          obtain ⟨hhd, hls⟩ := HLok.out sl (List.mem_of_getElem? hx)
          have d0 := HKq.out.cell (HLcell.out j sl hx)
          have hoff := flat_next Sl.es LL j sl hx
          have hflat := fun i y h => flat_at Sl.es LL j i sl y hx h
          generalize ((LL.take j).flatMap Sl.es).length = off at *
          obtain ⟨sA, sc, ses⟩ := sl
          dsimp only at hhd hls hoff hflat
          have d0' : wr.cell? ⟨g1, j, none⟩ = some (.slice sA ses.length sc) := by
            have e : (⟨g1, 0, none⟩ : Addr).add j = ⟨g1, j, none⟩ := by unfold Addr.add; split <;> simp_all
            rw [e] at d0
            exact d0
          have HOFF := Lib.hid hoff
          have HFL := Lib.hid hflat
          have HLS := Lib.hid hls
          have hsl3 : ses.length ≤ 9223372036854775807 := by have := hhd.2; omega
          have HHD := Lib.hid hhd
          clear d0 hoff hflat hls hx hhd
          gi_wp2
          gi_loopw [46] (fun iv wv => ∃ i : Nat, i ≤ ses.length ∧ iv = .int .i64 i ∧ J (all.take (off + i)) wv ∧ Kcl w2 wv) (fun iv _ => ses.length - (intOf iv).toNat)
          case atStart => exact ⟨0, by omega, rfl, HJq.out, HKq.out⟩
          case round =>
            obtain ⟨i, hi', rfl, hJi, hki⟩ := hrel
            have HJi := Lib.hid hJi
            have HKi := Lib.hid hki
            clear hJi hki
            by_cases hlt2 : i < ses.length
            · have hx : ses[i]? = some ses[i] := List.getElem?_eq_getElem hlt2
              have hal := HFL.out i _ hx
              rw [← HLall.out, List.getElem?_map] at hal
              obtain ⟨xx, hxx, hxe⟩ := Option.map_eq_some_iff.1 hal
              rcases sA with _ | ad
              · exact absurd (HHD.out.1 rfl).1 (by omega)
              have hcl := fun i2 v h => HKi.out.cell (HLS.out ad rfl i _ hx i2 v h)
              have hal2 : off + i < all.length := (List.getElem?_eq_some_iff.1 hxx).1
              rw [← hxe] at hcl
              have HXX := Lib.hid hxx
              clear hal hxe hx hxx
              obtain ⟨⟨n', ⟨op, ⟨k, m', s, hv⟩, t, nm, ls⟩, a', c'⟩, hrd⟩ := xx
              have p0 : wr.cell? (ad.add (i * 7)) = some (.int .i64 op) := hcl 0 _ rfl
              have p1 : wr.cell? ⟨(ad.add (i * 7)).block, (ad.add (i * 7)).off + 1, none⟩ = some (.int .i64 k) := by rw [← add_two _ _ (by omega)]; exact hcl 1 _ rfl
              have p2 : wr.cell? ⟨(ad.add (i * 7)).block, (ad.add (i * 7)).off + 2, none⟩ = some (.int .i64 m') := by rw [← add_two _ _ (by omega)]; exact hcl 2 _ rfl
              have p3 : wr.cell? ⟨(ad.add (i * 7)).block, (ad.add (i * 7)).off + 3, none⟩ = some (.string s) := by rw [← add_two _ _ (by omega)]; exact hcl 3 _ rfl
              have p4 : wr.cell? ⟨(ad.add (i * 7)).block, (ad.add (i * 7)).off + 4, none⟩ = some (.string t) := by rw [← add_two _ _ (by omega)]; exact hcl 4 _ rfl
              have p5 : wr.cell? ⟨(ad.add (i * 7)).block, (ad.add (i * 7)).off + 5, none⟩ = some (.string nm) := by rw [← add_two _ _ (by omega)]; exact hcl 5 _ rfl
              have p6 : wr.cell? ⟨(ad.add (i * 7)).block, (ad.add (i * 7)).off + 6, none⟩ = some (.slice a' ls.length c') := by rw [← add_two _ _ (by omega)]; exact hcl 6 _ rfl
              clear hcl
              have hJa := HJ.out (all.take (off + i)) wr _ none HJi.out (World.grownBy_alloc wr (.cells #[.int .i64 op, .int .i64 k, .int .i64 m', .string s, .string t, .string nm, .slice a' ls.length c'] 62) none) (fun r e => by cases e)
              obtain ⟨fn, tmps, assign, body, hy, hR2⟩ := HY.out (all.take (off + i)) ⟨⟨n', ⟨op, ⟨k, m', s, hv⟩, t, nm, ls⟩, a', c'⟩, hrd⟩ _ hJa (by rw [List.length_take]; omega)
              have HTK : Hid (all.take (off + i) ++ [⟨⟨n', ⟨op, ⟨k, m', s, hv⟩, t, nm, ls⟩, a', c'⟩, hrd⟩] = all.take (off + (i + 1))) := Lib.hid (by rw [← Nat.add_assoc, List.take_add_one, HXX.out]; rfl)
              clear hJa
              gi_wp2
              refine hR2.mono ?_
              rintro e W3 (⟨rfl, hJ3, hk3⟩ | ⟨rfl, hJx3⟩)
              · rw [HTK.out] at hJ3
                have HJ3 := Lib.hid hJ3
                have HK3 := Lib.hid ((HKi.out.trans (Kcl.below (below1 wr _))).trans hk3.2)
                clear hJ3 hk3
                gi_wp2
                go_roundw
                case rel => exact ⟨i + 1, by omega, by go_num, HJ3.out, HK3.out⟩
                case measure => simp [intOf]; omega
              · rw [HTK.out] at hJx3
                have HJ3 := Lib.hid hJx3
                clear hJx3
                gi_wp2
                refine bodyPost_ret (results_none rfl _ _ _) rfl ?_
                exact ⟨⟨_, rfl⟩, .inr ⟨_, List.take_prefix _ _, HJ3.out⟩⟩
            · have hie : i = ses.length := by omega
              subst hie
              gi_wp2
              go_roundw
              case rel => exact ⟨j + 1, by omega, by go_num, by rw [HOFF.out]; exact HJi.out, HKi.out⟩
              case measure => simp [intOf]; omega
        · have hje : LL.take j = LL := List.take_of_length_le (by rw [HLlen.out]; omega)
          have hJa : J all wr := by
            have h := HJq.out
            rw [hje, ← HLall.out, List.length_map, List.take_length] at h
            exact h
          have HJA := Lib.hid hJa
          clear hJa hje
          gi_wp2
          go_end0
          exact ⟨⟨_, rfl⟩, .inl ⟨all, rfl, HJA.out⟩⟩
end Go.Proofs.YtipcacplphidhaaGreat.Sy
