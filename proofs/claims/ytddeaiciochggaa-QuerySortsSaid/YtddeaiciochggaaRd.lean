/- Rows in groups: what append and a store make of them; the walk of query's grouped over the rows of the statements' example. Conditions: none. -/
import Derived.Test.YtddeaiciochggaaRc
namespace Go.Proofs.Ytddeaiciochggaa
open Go.RowKit Go.Sort
set_option linter.unusedSimpArgs false
set_option linter.unusedVariables false

theorem Try.infoG : (Try.prog.info? 124).map (fun i => (i.zero, i.size, i.bytes)) = some (some (.slice none 0 0), 1, 24) := by kernel_rfl
/-- Groups in memory of the call's own: each with its cells. -/
structure GS (w : World) (B : Nat) (gv : Value) (us : List (Value × List Value)) : Prop where
  own : w.ownsRow B 124 1 gv us.length (us.map Prod.fst)
  each : ∀ x ∈ us, w.ownsRow B 85 1 x.1 x.2.length x.2
  apart : us.Pairwise fun x y => ∀ b, x.1.ownBlock = some b → y.1.ownBlock ≠ some b
theorem GS.below {w w' : World} {B : Nat} {gv : Value} {us : List (Value × List Value)} (h : GS w B gv us) (hb : Below w.heap.size w w') : GS w' B gv us :=
  ⟨own_below h.own hb, fun x hx => own_below (h.each x hx) hb, h.apart⟩
theorem kind_ne {w : World} {B B' n m : Nat} {gv u : Value} {xs ys : List Value} (h : w.ownsRow B 124 1 gv n xs) (hu : w.ownsRow B' 85 1 u m ys) : u.ownBlock = none ∨ u.ownBlock ≠ gv.ownBlock := by
  cases hub : u.ownBlock with
  | none => exact .inl rfl
  | some b =>
    refine .inr fun e => ?_
    obtain ⟨c, fz, hc⟩ := Lib.ownsRow_kind hu b hub
    obtain ⟨c', fz', hc'⟩ := Lib.ownsRow_kind h b e.symm
    rw [hc] at hc'
    injection hc' with hc'
    injection hc' with _ hc'
    exact absurd hc' (by decide)
theorem GS.push {w w' : World} {B : Nat} {gv gv' : Value} {us : List (Value × List Value)} (h : GS w B gv us) (ho : w'.ownsRow B 124 1 gv' (us.length + 1) (us.map Prod.fst ++ [.slice none 0 0])) (hg : w.grownBy w' gv.ownBlock) : GS w' B gv' (us ++ [((Value.slice none 0 0, ([] : List Value)) : Value × List Value)]) := by
  refine ⟨by rw [List.length_append, List.map_append]; exact ho, fun x hx => ?_, ?_⟩
  · rcases List.mem_append.1 hx with hx | hx
    · exact (h.each x hx).kept hg (kind_ne h.own (h.each x hx))
    · simp at hx; subst hx; exact World.ownsRow_nil _ _ _ _
  · refine List.pairwise_append.2 ⟨h.apart, List.pairwise_singleton _ _, fun x hx y hy b hb => ?_⟩
    simp at hy; subst hy
    simp [Value.ownBlock]
theorem GS.keptOwn {w w' : World} {B g n cap : Nat} {pre : List (Value × List Value)} {x : Value × List Value} (h : GS w B (.slice (some ⟨g, 0, none⟩) n cap) (pre ++ [x])) (hn : n = pre.length + 1) (hg : w.grownBy w' x.1.ownBlock) :
    w'.ownsRow B 124 1 (.slice (some ⟨g, 0, none⟩) n cap) n ((pre ++ [x]).map Prod.fst) := by
  have hxo := h.each x (by simp)
  have hown : w.ownsRow B 124 1 (.slice (some ⟨g, 0, none⟩) n cap) n ((pre ++ [x]).map Prod.fst) := by
    have := h.own
    rw [List.length_append] at this
    rw [hn] at this ⊢
    exact this
  exact hown.kept hg (by
    cases hxb : x.1.ownBlock with
    | none => exact .inr (by simp [Value.ownBlock])
    | some b =>
      rcases kind_ne hown hxo with e | e
      · rw [hxb] at e; cases e
      · rw [hxb] at e; exact .inr fun e' => e e'.symm)
theorem GS.last {w w' : World} {B g n cap : Nat} {pre : List (Value × List Value)} {x : Value × List Value} {x' r : Value} (h : GS w B (.slice (some ⟨g, 0, none⟩) n cap) (pre ++ [x])) (hn : n = pre.length + 1) (ho : w'.ownsRow B 85 1 x' (x.2.length + 1) (x.2 ++ [r])) (hg : w.grownBy w' x.1.ownBlock) (hat : x'.ownBlock = x.1.ownBlock ∨ x'.ownBlock = some w.heap.size) :
    GS (w'.setCell ⟨g, pre.length, none⟩ x') B (.slice (some ⟨g, 0, none⟩) n cap) (pre ++ [(x', x.2 ++ [r])]) := by
  have hxo := h.each x (by simp)
  have hown : w.ownsRow B 124 1 (.slice (some ⟨g, 0, none⟩) n cap) n ((pre ++ [x]).map Prod.fst) := by
    have := h.own
    rw [List.length_append] at this
    rw [hn] at this ⊢
    exact this
  have h1 := hown.kept hg (by
    cases hxb : x.1.ownBlock with
    | none => exact .inr (by simp [Value.ownBlock])
    | some b =>
      rcases kind_ne hown hxo with e | e
      · rw [hxb] at e; cases e
      · rw [hxb] at e; exact .inr fun e' => e e'.symm)
  obtain ⟨h2, h3⟩ := h1.stored pre.length x'
  have hks : ∀ (u : Value) (m : Nat) (ys : List Value), w'.ownsRow B 85 1 u m ys → (w'.setCell ⟨g, pre.length, none⟩ x').ownsRow B 85 1 u m ys := fun u m ys hu => hu.kept h3 (by
    rcases kind_ne h1 hu with e | e
    · exact .inl e
    · exact .inr (by simpa [Value.ownBlock] using e))
  refine ⟨?_, fun y hy => ?_, ?_⟩
  · have e : ((pre ++ [x]).map Prod.fst).set pre.length x' = (pre ++ [(x', x.2 ++ [r])]).map Prod.fst := by
      rw [List.map_append, List.map_append, List.set_append_right _ _ (by simp)]
      simp
    rw [e] at h2
    rw [List.length_append, ← show n = pre.length + [(x', x.2 ++ [r])].length from hn]
    exact h2
  · rcases List.mem_append.1 hy with hy | hy
    · have hyo := h.each y (List.mem_append_left _ hy)
      refine hks _ _ _ (hyo.kept hg ?_)
      cases hyb : y.1.ownBlock with
      | none => exact .inl rfl
      | some b => exact .inr (fun e => (List.pairwise_append.1 h.apart).2.2 y hy x (by simp) b hyb e.symm)
    · simp at hy
      subst hy
      rw [List.length_append]
      exact hks _ _ _ ho
  · obtain ⟨a1, _, a3⟩ := List.pairwise_append.1 h.apart
    refine List.pairwise_append.2 ⟨a1, List.pairwise_singleton _ _, fun y hy z hz b hb => ?_⟩
    simp at hz; subst hz
    rcases hat with e | e
    · rw [e]; exact a3 y hy x (by simp) b hb
    · rw [e]
      intro e'
      injection e' with e'
      have := ((h.each y (List.mem_append_left _ hy)).lt b hb).2
      omega
def vN (n : Int) (h : inR n = true) : Vl := ⟨1, n, ⟨#[]⟩, h, by decide⟩
def r1 : List Vl := [vN 1 (by decide)]
def r2 : List Vl := [vN 2 (by decide)]
def o1 : List Oq := [⟨1, false⟩]
theorem srt3 : So.sortL (ltQ o1) [r2, r1, r2] = [r1, r2, r2] := by kernel_rfl
theorem cm12 : cmR o1 r1 r2 = -1 := by kernel_rfl
theorem cm22 : cmR o1 r2 r2 = 0 := by kernel_rfl
/-- The groups behind i rows. -/
def shp (a b c : Value) : Nat → List (List Value)
  | 0 => []
  | 1 => [[a]]
  | 2 => [[a], [b]]
  | _ => [[a], [b, c]]
def GrPost (w : World) (e : Ending) (w' : World) : Prop :=
  ∃ (T0 : Addr) (gc : Nat) (us : List (Value × List Value)) (B1 B2 : Addr) (b1 b2 : Nat) (z : Value) (B : Nat), e = .returned (.tuple #[.slice (some T0) 2 gc, .int .i64 0]) ∧ GS w' B (.slice (some T0) 2 gc) us ∧ us.map Prod.snd = [[.slice (some B1) 1 b1], [.slice (some B2) 1 b2, z]] ∧ RdL w' (some B1) r1 ∧ RdL w' (some B2) r2 ∧ Below w.heap.size w w'
theorem one_of {us : List (Value × List Value)} {a : List Value} (h : us.map Prod.snd = [a]) : ∃ x, us = [x] ∧ x.2 = a := by
  cases us with
  | nil => simp at h
  | cons x l =>
    cases l with
    | nil => exact ⟨x, rfl, by simpa using h⟩
    | cons y l => simp at h
theorem two_of {us : List (Value × List Value)} {a b : List Value} (h : us.map Prod.snd = [a, b]) : ∃ x y, us = [x, y] ∧ x.2 = a ∧ y.2 = b := by
  cases us with
  | nil => simp at h
  | cons x l =>
    simp only [List.map_cons] at h
    injection h with h1 h2
    obtain ⟨y, hl, hy⟩ := one_of h2
    subst hl
    exact ⟨x, y, rfl, h1, hy⟩
theorem rows3 {w : World} {S : Addr} (h : RdR w (some S) [r1, r2, r2]) : ∃ A0 A1 A2 b0 b1 b2, w.cell? (S.add 0) = some (.slice (some A0) 1 b0) ∧ w.cell? (S.add 1) = some (.slice (some A1) 1 b1) ∧ w.cell? (S.add 2) = some (.slice (some A2) 1 b2) ∧ RdL w (some A0) r1 ∧ RdL w (some A1) r2 ∧ RdL w (some A2) r2 := by
  have hx : ∀ (j : Nat) (hj : j < 3) (r : List Vl), ([r1, r2, r2] : List (List Vl))[j] = r → r.length = 1 → ∃ A b, w.cell? (S.add j) = some (.slice (some A) 1 b) ∧ RdL w (some A) r := fun j hj r e hl => by
    obtain ⟨_, B, b, e0, q0, d0, n0, _⟩ := h.at_ (j := j) hj
    injection e0 with e0
    subst e0
    rw [e] at q0 d0 n0
    rw [hl] at q0 n0
    cases B with
    | none => exact absurd (n0 rfl) (by decide)
    | some A => exact ⟨A, b, q0, d0⟩
  obtain ⟨A0, b0, q0, d0⟩ := hx 0 (by decide) r1 rfl rfl
  obtain ⟨A1, b1, q1, d1⟩ := hx 1 (by decide) r2 rfl rfl
  obtain ⟨A2, b2, q2, d2⟩ := hx 2 (by decide) r2 rfl rfl
  exact ⟨A0, A1, A2, b0, b1, b2, q0, q1, q2, d0, d1, d2⟩
set_option maxRecDepth 100000 in
set_option maxHeartbeats 16000000 in
theorem grouped_3 (A : Addr) (c : Nat) (w : World) (h : RdR w (some A) [r2, r1, r2]) : Calls Try.prog 66 #[.slice (some A) 3 c, .int .i64 0] w (GrPost w) := by
  obtain ⟨i1, hi1, hy0, hy1, hy2⟩ := info_parts Try.infoR
  obtain ⟨i2, hi2, hk0, hk1, hk2⟩ := info_parts Try.infoG
  have hone : ∀ (j : Nat) (hj : j < 3), ([r2, r1, r2] : List (List Vl))[j].length = 1 := fun j hj => by
    match j, hj with
    | 0, _ => rfl
    | 1, _ => rfl
    | 2, _ => rfl
  have HR := Lib.hid h
  have HON := Lib.hid hone
  clear h hone
  go_enter Try.func66, Try.ntmps66
  go_wp2
  go_loop [19] (fun i => ∃ j : Nat, i = .int .i64 j ∧ j ≤ 3) (fun i => 3 - (intOf i).toNat)
  case atStart => exact ⟨0, rfl, by omega⟩
  case round =>
    obtain ⟨j, rfl, hj⟩ := hrel
    by_cases hlt : j < 3
    · have hlt' : (j : Int) < 3 := by omega
      obtain ⟨ad, B, bc, e0, q0, _, _, _⟩ := HR.out.at_ (j := j) hlt
      injection e0 with e0
      subst e0
      rw [HON.out j hlt] at q0
      have hq0 := cell_lt q0
      go_wp2
      go_round
      case rel => exact ⟨j + 1, by go_num, hlt⟩
      case measure => simp [intOf]; omega
    · have hge : ¬ (j : Int) < 3 := by omega
      have HSR : Hid (∀ (W : World) (b oA : Nat), Below w.heap.size w W → RdQ W (some ⟨oA, 0, none⟩) o1 → W.cell? ⟨b, 0, none⟩ = some (.slice (some ⟨oA, 0, none⟩) 1 1) → Calls Try.prog 37 #[.slice (some A) 3 c, .func (.func 63) #[] #[.pointer (some ⟨b, 0, none⟩)]] W fun e w' => ∃ A' c', e = .returned (.slice A' 3 c') ∧ 3 ≤ c' ∧ RdR w' A' [r1, r2, r2] ∧ (A' = none → 3 = 0) ∧ Below W.heap.size W w') := Lib.hid (fun W b oA hb hq hx => by
        have := sorted_any (some A) (some ⟨oA, 0, none⟩) c 1 b [r2, r1, r2] o1 W (HR.out.below hb) (fun e => by cases e) (by decide) hq hx (by decide) (allQ_has (by kernel_rfl))
        rw [srt3] at this
        exact this)
      have HOR := Lib.hid fun (oA : Option Addr) W => ordered_any oA 1 1 W
      have hq1 : RdQ (w.alloc (.cells #[.int .i64 1, .bool false] 88)) (some ⟨w.heap.size, 0, none⟩) o1 := fun _ => ⟨_, rfl, fun j o hj => by
        match j, hj with
        | 0, hj =>
          simp [o1] at hj
          subst hj
          rw [Nat.zero_mul, add0]
          exact ⟨(cell_last _ _ _ _ _ rfl).trans rfl, (cell_last _ _ _ _ _ rfl).trans rfl⟩⟩
      have hb1 := below1 w (.cells #[.int .i64 1, .bool false] 88)
      have HQ1 := Lib.hid hq1
      have HB1 := Lib.hid hb1
      have w1 : IntKind.i64.wrap (0 + 1) = 1 := by rw [IntKind.wrap_i64]; omega
      clear hq1 hb1
      go_upto_region 11 with (first
        | (go_at_call 38; (with_reducible refine (HOR.out _ _).mono ?_); rintro e w2 ⟨rfl, hx, hb⟩; simp only [World.size_alloc] at hx; have HX2 := Lib.hid hx; have HQ2 := Lib.hid (HQ1.out.below hb); have HB2 := Lib.hid (thn HB1.out hb); clear hx hb)
        | (go_at_call 37; (with_reducible refine (HSR.out _ _ _ HB2.out HQ2.out HX2.out).mono ?_); rintro e w3 ⟨A3, c3, rfl, hc3, h3, hA3, hb⟩; have HR3 := Lib.hid h3; have HA3 := Lib.hid hA3; have HX3 := Lib.hid ((hb.cell (cell_lt HX2.out)).trans HX2.out); have HQ3 := Lib.hid (HQ2.out.below hb); have HB3 := Lib.hid (thn HB2.out hb); clear hc3 h3 hA3 hb))
      obtain ⟨S3, hS3⟩ : ∃ S, A3 = some S := by
        cases A3 with
        | none => exact absurd (HA3.out rfl) (by decide)
        | some S => exact ⟨S, rfl⟩
      subst hS3
      clear HSR HOR HX2 HQ2 HB2 HB1 HQ1 HA3 w1
      obtain ⟨A0, A1, A2, b0, b1, b2, q0, q1, q2, d0, d1, d2⟩ := rows3 HR3.out
      have HQ0 := Lib.hid q0
      have HQ1 := Lib.hid q1
      have HQ2 := Lib.hid q2
      have HD0 := Lib.hid d0
      have HD1 := Lib.hid d1
      have HD2 := Lib.hid d2
      have hcc : ∀ (a b : Addr) (n m : Nat) (ra rb : List Vl) (k : Int), RdL w3 (some a) ra → RdL w3 (some b) rb → ra.length = 1 → rb.length = 1 → allQ o1 [ra, rb] = true → cmR o1 ra rb = k → ∀ W, Below w3.heap.size w3 W → Calls Try.prog 63 #[.slice (some a) 1 n, .slice (some b) 1 m, .pointer (some ⟨w.heap.size + 1, 0, none⟩)] W fun e w' => e = .returned (.int .i64 k) ∧ Below W.heap.size W w' := fun a b n m ra rb k ha hb la lb hq hk W hw => by
        have hh := allQ_has hq
        have := ord_any (some a) (some b) (some ⟨w.heap.size, 0, none⟩) n m 1 ra rb o1 (w.heap.size + 1) W (ha.below hw) (hb.below hw) (HQ3.out.below hw) ((hw.cell (cell_lt HX3.out)).trans HX3.out) (hh ra (by simp)) (hh rb (by simp)) (by omega) (by omega) (by decide)
        rw [hk, la, lb] at this
        exact this
      have HC01 := Lib.hid (hcc A0 A1 b0 b1 r1 r2 (-1) d0 d1 rfl rfl (by kernel_rfl) cm12)
      have HC12 := Lib.hid (hcc A1 A2 b1 b2 r2 r2 0 d1 d2 rfl rfl (by kernel_rfl) cm22)
      clear q0 q1 q2 d0 d1 d2 hcc
      go_wp2_with fail
      go_loopw [9, 38] (fun z i wr => ∃ (j : Nat) (us : List (Value × List Value)) (gv : Value), gv = z ∧ i = .int .i64 j ∧ j ≤ 3 ∧ GS wr w3.heap.size gv us ∧ us.map Prod.snd = shp (.slice (some A0) 1 b0) (.slice (some A1) 1 b1) (.slice (some A2) 1 b2) j ∧ Below w3.heap.size w3 wr) (fun _ i _ => 3 - (intOf i).toNat)
      case atStart => exact ⟨0, [], _, rfl, rfl, by omega, ⟨World.ownsRow_nil _ _ _ _, fun x hx => by simp at hx, List.Pairwise.nil⟩, rfl, Below.refl _ _⟩
      case round =>
        obtain ⟨j, us, gv, hgz, rfl, hj, hG, hU, hB⟩ := hrel
        subst hgz
        have HG := Lib.hid hG
        have HB := Lib.hid hB
        clear hG hB
        rcases (show j = 0 ∨ j = 1 ∨ j = 2 ∨ j = 3 by omega) with rfl | rfl | rfl | rfl
        · have hus : us = [] := by simpa [shp] using hU
          subst hus
          simp only [Int.cast_ofNat_Int]
          have q0 := (HB.out.cell (cell_lt HQ0.out)).trans HQ0.out
          rw [add0] at q0
          have ql := cell_lt q0
          have hsr := HB.out.size
          go_upto_region 17 with (at_builtin; refine wpList_append_own_at _ rfl (.tmp 56) (.tmp 57) 120 rfl w3.heap.size 124 i2 (.slice none 0 0) 1 24 Try.underlying120 hi2 hk0 hk1 hk2 rfl (by decide) _ _ _ rfl (HG.out.own.alloc _) ⟨wr.heap.size, 0, none⟩ 1 1 [.slice none 0 0] rfl rfl (news_new0 wr #[.slice none 0 0] 124 _ rfl) (by simp [Value.oneCell']) (by unfold maxLen; simp) (by simp) (by simp; omega) ?_; intro gv5 w5 hown hg _ _; have HG5 : Hid (GS w5 w3.heap.size gv5 ([] ++ [((Value.slice none 0 0, ([] : List Value)) : Value × List Value)])) := Lib.hid ((HG.out.below (below1 wr _)).push hown hg); have hb5 : Below w3.heap.size w3 w5 := (HB.out.alloc hsr _).grown hg (by simp; omega) (fun b hb => (HG.out.own.lt b hb).1); have HB5 := Lib.hid hb5; clear hown hg hb5)
          obtain ⟨g, cap, hgv⟩ : ∃ g cap, gv5 = .slice (some ⟨g, 0, none⟩) 1 cap := by
            rcases HG5.out.own.2 with ⟨h1, h0⟩ | ⟨g, cap, cur, h1, _⟩
            · cases h0
            · exact ⟨g, cap, h1⟩
          subst hgv
          have hb6 := below1 w5 (.cells #[.slice (some A0) 1 b0] 85)
          have HG6 : Hid (GS (w5.alloc (.cells #[.slice (some A0) 1 b0] 85)) w3.heap.size (.slice (some ⟨g, 0, none⟩) 1 cap) ([] ++ [((Value.slice none 0 0, ([] : List Value)) : Value × List Value)])) := Lib.hid (HG5.out.below hb6)
          have HO6 := Lib.hid (HG6.out.each ((Value.slice none 0 0, ([] : List Value)) : Value × List Value) (by simp))
          have hcx : w5.cell? ⟨g, 0, none⟩ = some (((Value.slice none 0 0, ([] : List Value)) : Value × List Value)).1 := (HG5.out.own.cellAt 0 (by decide)).trans rfl
          have hgf : w5.frozen? ⟨g, 0, none⟩ = false := HG5.out.own.frozenAt 0
          obtain ⟨fA, fn, fc, hfx⟩ := form_of HO6.out
          have hfx' := hfx
          rw [hfx] at hcx
          have hgl := (HG5.out.own.lt g rfl).2
          have HB6 := Lib.hid (thn HB5.out hb6)
          have hs5 := HB5.out.size
          have hs6 : w3.heap.size ≤ (w5.alloc (.cells #[.slice (some A0) 1 b0] 85)).heap.size := by simp; omega
          have HNW := Lib.hid (news_new0 w5 #[.slice (some A0) 1 b0] 85 _ rfl)
          have hxl2 : (((Value.slice none 0 0, ([] : List Value)) : Value × List Value)).2.length ≤ 5 := by simp 
          clear hb6
          go_upto_region 19 with (at_builtin; refine wpList_append_own_at _ rfl (.tmp 67) (.tmp 69) 124 rfl w3.heap.size 85 i1 (.slice none 0 0) 1 24 Try.underlying124 hi1 hy0 hy1 hy2 rfl (by decide) _ _ _ hfx'.symm HO6.out ⟨w5.heap.size, 0, none⟩ 1 1 [.slice (some A0) 1 b0] rfl rfl HNW.out (by simp [Value.oneCell']) (by unfold maxLen; omega) (by omega) hs6 ?_; intro x' w7 hown hg _ hat; have hk7 := HG6.out.keptOwn rfl hg; have g7 : w7.cell? ⟨g, 0, none⟩ = some (((Value.slice none 0 0, ([] : List Value)) : Value × List Value)).1 := (hk7.cellAt 0 (by decide)).trans rfl; have gf7 : w7.frozen? ⟨g, 0, none⟩ = false := hk7.frozenAt 0; rw [hfx] at g7; have HG8 := Lib.hid (HG6.out.last rfl hown hg hat); have hb7 : Below w3.heap.size w3 w7 := HB6.out.grown hg hs6 (fun b hb => (HO6.out.lt b hb).1); have hgb := (HG6.out.own.lt g rfl).1; have HB8 := Lib.hid (hb7.setCell (p := ⟨g, 0, none⟩) hgb x'); obtain ⟨zA, zn, zc, hzx⟩ := form_of hown; subst hzx; clear hk7 hown hg hat hb7)
          go_wp2
          go_roundw
          case rel => exact ⟨1, _, _, rfl, by rfl, by omega, HG8.out, by simp [shp], HB8.out⟩
          case measure => simp [intOf]
        · obtain ⟨x0, hus, hx0⟩ := one_of hU
          subst hus
          simp only [Int.cast_ofNat_Int]
          have q0 := (HB.out.cell (cell_lt HQ0.out)).trans HQ0.out
          rw [add0] at q0
          have q1 : wr.cell? ⟨S3.block, S3.off + 1, none⟩ = some (.slice (some A1) 1 b1) := (HB.out.cell (cell_lt HQ1.out)).trans HQ1.out
          have ql := cell_lt q0
          have w1 : IntKind.i64.wrap (1 - 1) = 0 := by rw [IntKind.wrap_i64]; omega
          go_upto_region 16 with (go_at_call 63; (with_reducible refine (HC01.out _ HB.out).mono ?_); rintro e wb ⟨rfl, hb⟩; have HGb := Lib.hid (HG.out.below hb); have HBb := Lib.hid (thn HB.out hb); clear hb)
          clear HG HB q0 ql
          have hsr := HBb.out.size
          go_upto_region 17 with (at_builtin; refine wpList_append_own_at _ rfl (.tmp 56) (.tmp 57) 120 rfl w3.heap.size 124 i2 (.slice none 0 0) 1 24 Try.underlying120 hi2 hk0 hk1 hk2 rfl (by decide) _ _ _ rfl (HGb.out.own.alloc _) ⟨wb.heap.size, 0, none⟩ 1 1 [.slice none 0 0] rfl rfl (news_new0 wb #[.slice none 0 0] 124 _ rfl) (by simp [Value.oneCell']) (by unfold maxLen; simp) (by simp) (by simp; omega) ?_; intro gv5 w5 hown hg _ _; have HG5 : Hid (GS w5 w3.heap.size gv5 ([x0] ++ [((Value.slice none 0 0, ([] : List Value)) : Value × List Value)])) := Lib.hid ((HGb.out.below (below1 wb _)).push hown hg); have hb5 : Below w3.heap.size w3 w5 := (HBb.out.alloc hsr _).grown hg (by simp; omega) (fun b hb => (HGb.out.own.lt b hb).1); have HB5 := Lib.hid hb5; clear hown hg hb5)
          obtain ⟨g, cap, hgv⟩ : ∃ g cap, gv5 = .slice (some ⟨g, 0, none⟩) 2 cap := by
            rcases HG5.out.own.2 with ⟨h1, h0⟩ | ⟨g, cap, cur, h1, _⟩
            · cases h0
            · exact ⟨g, cap, h1⟩
          subst hgv
          have hb6 := below1 w5 (.cells #[.slice (some A1) 1 b1] 85)
          have HG6 : Hid (GS (w5.alloc (.cells #[.slice (some A1) 1 b1] 85)) w3.heap.size (.slice (some ⟨g, 0, none⟩) 2 cap) ([x0] ++ [((Value.slice none 0 0, ([] : List Value)) : Value × List Value)])) := Lib.hid (HG5.out.below hb6)
          have HO6 := Lib.hid (HG6.out.each ((Value.slice none 0 0, ([] : List Value)) : Value × List Value) (by simp))
          have hcx : w5.cell? ⟨g, 1, none⟩ = some (((Value.slice none 0 0, ([] : List Value)) : Value × List Value)).1 := (HG5.out.own.cellAt 1 (by decide)).trans rfl
          have hgf : w5.frozen? ⟨g, 1, none⟩ = false := HG5.out.own.frozenAt 1
          obtain ⟨fA, fn, fc, hfx⟩ := form_of HO6.out
          have hfx' := hfx
          rw [hfx] at hcx
          have hgl := (HG5.out.own.lt g rfl).2
          have HB6 := Lib.hid (thn HB5.out hb6)
          have hs5 := HB5.out.size
          have hs6 : w3.heap.size ≤ (w5.alloc (.cells #[.slice (some A1) 1 b1] 85)).heap.size := by simp; omega
          have HNW := Lib.hid (news_new0 w5 #[.slice (some A1) 1 b1] 85 _ rfl)
          have hxl2 : (((Value.slice none 0 0, ([] : List Value)) : Value × List Value)).2.length ≤ 5 := by simp 
          clear hb6
          go_upto_region 19 with (at_builtin; refine wpList_append_own_at _ rfl (.tmp 67) (.tmp 69) 124 rfl w3.heap.size 85 i1 (.slice none 0 0) 1 24 Try.underlying124 hi1 hy0 hy1 hy2 rfl (by decide) _ _ _ hfx'.symm HO6.out ⟨w5.heap.size, 0, none⟩ 1 1 [.slice (some A1) 1 b1] rfl rfl HNW.out (by simp [Value.oneCell']) (by unfold maxLen; omega) (by omega) hs6 ?_; intro x' w7 hown hg _ hat; have hk7 := HG6.out.keptOwn rfl hg; have g7 : w7.cell? ⟨g, 1, none⟩ = some (((Value.slice none 0 0, ([] : List Value)) : Value × List Value)).1 := (hk7.cellAt 1 (by decide)).trans rfl; have gf7 : w7.frozen? ⟨g, 1, none⟩ = false := hk7.frozenAt 1; rw [hfx] at g7; have HG8 := Lib.hid (HG6.out.last rfl hown hg hat); have hb7 : Below w3.heap.size w3 w7 := HB6.out.grown hg hs6 (fun b hb => (HO6.out.lt b hb).1); have hgb := (HG6.out.own.lt g rfl).1; have HB8 := Lib.hid (hb7.setCell (p := ⟨g, 1, none⟩) hgb x'); obtain ⟨zA, zn, zc, hzx⟩ := form_of hown; subst hzx; clear hk7 hown hg hat hb7)
          go_wp2
          go_roundw
          case rel => exact ⟨2, _, _, rfl, by rfl, by omega, HG8.out, by simp [shp, hx0], HB8.out⟩
          case measure => simp [intOf]
        · obtain ⟨x0, x1, hus, hx0, hx1⟩ := two_of hU
          subst hus
          simp only [Int.cast_ofNat_Int]
          have q1 : wr.cell? ⟨S3.block, S3.off + 1, none⟩ = some (.slice (some A1) 1 b1) := (HB.out.cell (cell_lt HQ1.out)).trans HQ1.out
          have q2 : wr.cell? ⟨S3.block, S3.off + 2, none⟩ = some (.slice (some A2) 1 b2) := (HB.out.cell (cell_lt HQ2.out)).trans HQ2.out
          have w1 : IntKind.i64.wrap (2 - 1) = 1 := by rw [IntKind.wrap_i64]; omega
          obtain ⟨g, cap, hgv⟩ : ∃ g cap, gv = .slice (some ⟨g, 0, none⟩) 2 cap := by
            rcases HG.out.own.2 with ⟨h1, h0⟩ | ⟨g, cap, cur, h1, _⟩
            · cases h0
            · exact ⟨g, cap, h1⟩
          subst hgv
          go_upto_region 17 with (go_at_call 63; (with_reducible refine (HC12.out _ HB.out).mono ?_); rintro e w5 ⟨rfl, hb⟩; have HG5 := Lib.hid (HG.out.below hb); have HB5 := Lib.hid (thn HB.out hb); clear hb)
          clear HG HB q1 q2
          have hb6 := below1 w5 (.cells #[.slice (some A2) 1 b2] 85)
          have HG6 : Hid (GS (w5.alloc (.cells #[.slice (some A2) 1 b2] 85)) w3.heap.size (.slice (some ⟨g, 0, none⟩) 2 cap) ([x0] ++ [x1])) := Lib.hid (HG5.out.below hb6)
          have HO6 := Lib.hid (HG6.out.each x1 (by simp))
          have hcx : w5.cell? ⟨g, 1, none⟩ = some (x1).1 := (HG5.out.own.cellAt 1 (by decide)).trans rfl
          have hgf : w5.frozen? ⟨g, 1, none⟩ = false := HG5.out.own.frozenAt 1
          obtain ⟨fA, fn, fc, hfx⟩ := form_of HO6.out
          have hfx' := hfx
          rw [hfx] at hcx
          have hgl := (HG5.out.own.lt g rfl).2
          have HB6 := Lib.hid (thn HB5.out hb6)
          have hs5 := HB5.out.size
          have hs6 : w3.heap.size ≤ (w5.alloc (.cells #[.slice (some A2) 1 b2] 85)).heap.size := by simp; omega
          have HNW := Lib.hid (news_new0 w5 #[.slice (some A2) 1 b2] 85 _ rfl)
          have hxl2 : (x1).2.length ≤ 5 := by simp [hx1]
          clear hb6
          go_upto_region 19 with (at_builtin; refine wpList_append_own_at _ rfl (.tmp 67) (.tmp 69) 124 rfl w3.heap.size 85 i1 (.slice none 0 0) 1 24 Try.underlying124 hi1 hy0 hy1 hy2 rfl (by decide) _ _ _ hfx'.symm HO6.out ⟨w5.heap.size, 0, none⟩ 1 1 [.slice (some A2) 1 b2] rfl rfl HNW.out (by simp [Value.oneCell']) (by unfold maxLen; omega) (by omega) hs6 ?_; intro x' w7 hown hg _ hat; have hk7 := HG6.out.keptOwn rfl hg; have g7 : w7.cell? ⟨g, 1, none⟩ = some (x1).1 := (hk7.cellAt 1 (by decide)).trans rfl; have gf7 : w7.frozen? ⟨g, 1, none⟩ = false := hk7.frozenAt 1; rw [hfx] at g7; have HG8 := Lib.hid (HG6.out.last rfl hown hg hat); have hb7 : Below w3.heap.size w3 w7 := HB6.out.grown hg hs6 (fun b hb => (HO6.out.lt b hb).1); have hgb := (HG6.out.own.lt g rfl).1; have HB8 := Lib.hid (hb7.setCell (p := ⟨g, 1, none⟩) hgb x'); obtain ⟨zA, zn, zc, hzx⟩ := form_of hown; subst hzx; clear hk7 hown hg hat hb7)
          go_wp2
          go_roundw
          case rel => exact ⟨3, _, _, rfl, by rfl, by omega, HG8.out, by simp [shp, hx0, hx1], HB8.out⟩
          case measure => simp [intOf]
        · obtain ⟨x0, x1, hus, hx0, hx1⟩ := two_of hU
          subst hus
          simp only [Int.cast_ofNat_Int]
          obtain ⟨T0, gc, hgv⟩ : ∃ T0 gc, gv = .slice (some T0) 2 gc := by
            rcases HG.out.own.2 with ⟨h1, h0⟩ | ⟨g, cap, cur, h1, _⟩
            · cases h0
            · exact ⟨⟨g, 0, none⟩, cap, h1⟩
          subst hgv
          go_wp2
          go_ret2
          exact ⟨T0, gc, [x0, x1], A0, A1, b0, b1, .slice (some A2) 1 b2, w3.heap.size, rfl, HG.out, hU, HD0.out.below HB.out, HD1.out.below HB.out, thn HB3.out HB.out⟩
end Go.Proofs.Ytddeaiciochggaa
