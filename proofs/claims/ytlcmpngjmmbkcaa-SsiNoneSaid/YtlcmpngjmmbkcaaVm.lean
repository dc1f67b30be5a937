/- What the law's alive answers: the walk. Conditions: none. -/
import Derived.Test.YtlcmpngjmmbkcaaVl
namespace Go.Proofs.Ytlcmpngjmmbkcaa
open Go.RowKit Go.Sort Go.Maps
set_option linter.unusedSimpArgs false
set_option linter.unusedVariables false

/-- A box that holds a state. -/
structure SB (W : World) (g : Nat) (A : Option Addr) (n c : Nat) (s : St) : Prop where
  box : Bx W g (.slice A n c) (.int .i64 s.c) (.int .i64 s.n)
  rd : Rd W A n c s.l
  fin : ∀ k, 3 ≤ k → W.cell? ⟨g, k, none⟩ = none
section
variable {W W' : World} {g n c : Nat} {A : Option Addr} {s : St}
theorem SB.below (h : SB W g A n c s) (hb : Below W.heap.size W W') : SB W' g A n c s :=
  ⟨h.box.below hb, h.rd.below hb, fun k hk => (hb.cell (p := ⟨g, k, none⟩) h.box.lt).trans (h.fin k hk)⟩
theorem SB.new (W : World) {A : Option Addr} {n c : Nat} {s : St} (hr : Rd W A n c s.l) : SB (W.alloc (.cells #[.slice A n c, .int .i64 s.c, .int .i64 s.n] 28)) W.heap.size A n c s :=
  ⟨Bx.new W _ _ _ _, hr.below (below1 _ _), fun k hk => by rw [cell_last W _ _ _ _ rfl]; simp; omega⟩
theorem Rd.box {W : World} {g n c : Nat} {A : Option Addr} {l : List Tx} (h : Rd W A n c l) (hf : ∀ k, 3 ≤ k → W.cell? ⟨g, k, none⟩ = none) (i : Nat) (v : Value) : Rd (W.setCell ⟨g, i, none⟩ v) A n c l :=
  ⟨h.len, h.le, h.cap, h.nil, fun ad e j u hj => by
    obtain ⟨c0, c1, c2, c3, c4⟩ := h.cells ad e j u hj
    have hne : (ad.add (j * 5)).block ≠ g := fun e => by
      rw [e] at c4
      rw [hf _ (by omega)] at c4
      cases c4
    have hq : ∀ (p : Addr), p.block = (ad.add (j * 5)).block → (W.setCell ⟨g, i, none⟩ v).cell? p = W.cell? p := fun p hp => World.cell?_setCell_other _ _ _ _ (fun e => hne (by rw [← hp, ← e]))
    exact ⟨(hq _ rfl).trans c0, (hq ⟨(ad.add (j * 5)).block, (ad.add (j * 5)).off + 1, none⟩ rfl).trans c1, (hq ⟨(ad.add (j * 5)).block, (ad.add (j * 5)).off + 2, none⟩ rfl).trans c2, (hq ⟨(ad.add (j * 5)).block, (ad.add (j * 5)).off + 3, none⟩ rfl).trans c3, (hq ⟨(ad.add (j * 5)).block, (ad.add (j * 5)).off + 4, none⟩ rfl).trans c4⟩, h.rng⟩
theorem fin_set {W : World} {g : Nat} (hf : ∀ k, 3 ≤ k → W.cell? ⟨g, k, none⟩ = none) {i : Nat} (hi : i < 3) (v : Value) : ∀ k, 3 ≤ k → (W.setCell ⟨g, i, none⟩ v).cell? ⟨g, k, none⟩ = none := fun k hk =>
  (World.cell?_setCell_other _ _ _ _ (by simp <;> omega)).trans (hf k hk)
/-- Another state put into the box. -/
theorem SB.put {A' : Option Addr} {n' c' : Nat} {s' : St} (h : SB W g A n c s) (hr : Rd W A' n' c' s'.l) : SB (((W.setCell ⟨g, 0, none⟩ (.slice A' n' c')).setCell ⟨g, 1, none⟩ (.int .i64 s'.c)).setCell ⟨g, 2, none⟩ (.int .i64 s'.n)) g A' n' c' s' :=
  ⟨h.box.set3 _ _ _, ((hr.box h.fin 0 _).box (fin_set h.fin (by omega) _) 1 _).box (fin_set (fin_set h.fin (by omega) _) (by omega) _) 2 _, fin_set (fin_set (fin_set h.fin (by omega) _) (by omega) _) (by omega) _⟩
/-- Whatever else is read stays. -/
theorem Rd.put3 {W : World} {g n c : Nat} {A : Option Addr} {l : List Tx} (h : Rd W A n c l) (hf : ∀ k, 3 ≤ k → W.cell? ⟨g, k, none⟩ = none) (a b d : Value) : Rd (((W.setCell ⟨g, 0, none⟩ a).setCell ⟨g, 1, none⟩ b).setCell ⟨g, 2, none⟩ d) A n c l :=
  ((h.box hf 0 _).box (fin_set hf (by omega) _) 1 _).box (fin_set (fin_set hf (by omega) _) (by omega) _) 2 _
end
def s1 : St := ⟨[⟨1, 0, 0, false, false⟩], 0, 2⟩
def s2 : St := ⟨[⟨1, 0, 0, false, false⟩, ⟨2, 0, 0, false, false⟩], 0, 3⟩
def s3 : St := ⟨[⟨1, 0, 0, false, true⟩, ⟨2, 0, 0, true, false⟩], 0, 3⟩
theorem ok1 : Ok s1 := new_ok.beg (by decide) (by decide)
theorem ok2 : Ok s2 := ok1.beg (by decide) (by decide)
theorem beg0 : begR nS = (s1, 1, 0) := by unfold begR; rw [if_pos new_ok, if_neg (by decide)]; rfl
theorem beg1 : begR s1 = (s2, 2, 0) := by unfold begR; rw [if_pos ok1, if_neg (by decide)]; rfl
theorem edg2 : edgR s2 1 2 = (s3, [], 0) := by
  unfold edgR
  rw [if_pos ok2, dif_pos (by decide), if_neg (by decide)]
  rfl
theorem ok3 : Ok s3 := by
  have h := ok2.kept (m := s3.l) ⟨rfl, fun j t ht => by
    match j, ht with
    | 0, ht => simp [s2] at ht; subst ht; exact ⟨_, rfl, rfl, rfl, rfl⟩
    | 1, ht => simp [s2] at ht; subst ht; exact ⟨_, rfl, rfl, rfl, rfl⟩
    | j + 2, ht => simp [s2] at ht⟩
  exact h
theorem edg3 : (edgR s3 2 1).2 = ([2, 1], 0) := by
  unfold edgR
  rw [if_pos ok3, dif_pos (by decide), if_neg (by decide)]
  rfl
set_option maxRecDepth 100000 in
set_option maxHeartbeats 4000000 in
theorem alive_any (w : World) : Calls Try.prog 7 #[] w fun e w' => e = .returned (.bool true) ∧ Below w.heap.size w w' := by
  have h0 : ∀ W, Calls Try.prog 8 #[.agg #[.slice none 0 0, .int .i64 0, .int .i64 1]] W (AnsI (s1, 1, 0) W) := fun W => by
    have := begin_any none 0 0 nS W (Rd.nothing W)
    rw [beg0] at this
    exact this
  have h1 : ∀ A n c W, Rd W A n c s1.l → Calls Try.prog 8 #[.agg #[.slice A n c, .int .i64 s1.c, .int .i64 s1.n]] W (AnsI (s2, 2, 0) W) := fun A n c W hr => by
    have := begin_any A n c s1 W hr
    rw [beg1] at this
    exact this
  have h2 : ∀ A n c W, Rd W A n c s2.l → Calls Try.prog 12 #[.agg #[.slice A n c, .int .i64 s2.c, .int .i64 s2.n], .int .i64 1, .int .i64 2] W (AnsL (s3, [], 0) W) := fun A n c W hr => by
    have := edge_any A n c s2 1 2 W hr
    rw [edg2] at this
    exact this
  have h3 : ∀ A n c W, Rd W A n c s3.l → Calls Try.prog 12 #[.agg #[.slice A n c, .int .i64 s3.c, .int .i64 s3.n], .int .i64 2, .int .i64 1] W (AnsL ((edgR s3 2 1).1, [2, 1], 0) W) := fun A n c W hr => by
    have := edge_any A n c s3 2 1 W hr
    have e : edgR s3 2 1 = ((edgR s3 2 1).1, [2, 1], 0) := by rw [← edg3]
    rw [e] at this
    exact this
  have H0 := Lib.hid h0
  have H1 := Lib.hid h1
  have H2 := Lib.hid h2
  have H3 := Lib.hid h3
  have HN := Lib.hid fun k W => num_any k W
  clear h0 h1 h2 h3
  generalize (edgR s3 2 1).1 = s4 at *
  go_enter Try.func7, Try.ntmps7
  go_upto_region 2 with (first | (go_at_call 16; (with_reducible refine (new_any _).mono ?_); rintro e w1 ⟨rfl, hb⟩; have HB1 := Lib.hid hb; clear hb) | (go_at_call 8; (with_reducible refine (H0.out _).mono ?_); rintro e w2 ⟨A2, n2, c2, rfl, hr2, hb⟩; have HR2 := Lib.hid hr2; have HB2 := Lib.hid (thn HB1.out hb); clear hr2 hb))
  have HS3 := Lib.hid (SB.new w2 (s := s1) HR2.out)
  have HB3 := Lib.hid (thn HB2.out (below1 w2 (.cells #[.slice A2 n2 c2, .int .i64 s1.c, .int .i64 s1.n] 28)))
  have hg : w.heap.size ≤ w2.heap.size := HB2.out.size
  have HG := Lib.hid hg
  clear HR2 HB1 HB2 hg
  generalize w2.alloc (.cells #[.slice A2 n2 c2, .int .i64 s1.c, .int .i64 s1.n] 28) = W3 at *
  generalize w2.heap.size = g at *
  obtain ⟨z0, z1, z2, zf0, zf1, zf2⟩ := HS3.out.box
  go_upto_region 3 with (go_at_call 8; (with_reducible refine (H1.out _ _ _ _ HS3.out.rd).mono ?_); rintro e w4 ⟨A4, n4, c4, rfl, hr4, hb⟩; have HR4 := Lib.hid hr4; have HB4 := Lib.hid (thn HB3.out hb); have HS4 := Lib.hid (HS3.out.below hb); clear hr4 hb z0 z1 z2 zf0 zf1 zf2; obtain ⟨z0, z1, z2, zf0, zf1, zf2⟩ := HS4.out.box)
  have HS5 := Lib.hid (HS4.out.put (s' := s2) HR4.out)
  have HB5 := Lib.hid (((HB4.out.setCell (p := ⟨g, 0, none⟩) HG.out (.slice A4 n4 c4)).setCell (p := ⟨g, 1, none⟩) HG.out (.int .i64 s2.c)).setCell (p := ⟨g, 2, none⟩) HG.out (.int .i64 s2.n))
  clear z0 z1 z2 zf0 zf1 zf2 HR4 HB4 HS4
  generalize ((w4.setCell ⟨g, 0, none⟩ (.slice A4 n4 c4)).setCell ⟨g, 1, none⟩ (.int .i64 s2.c)).setCell ⟨g, 2, none⟩ (.int .i64 s2.n) = W5 at *
  obtain ⟨z0, z1, z2, zf0, zf1, zf2⟩ := HS5.out.box
  go_upto_region 4 with (go_at_call 12; (with_reducible refine (H2.out _ _ _ _ HS5.out.rd).mono ?_); rintro e w6 ⟨A6, n6, c6, B6, m6, d6, rfl, hr6, hi6, hb⟩; have HR6 := Lib.hid hr6; have HB6 := Lib.hid (thn HB5.out hb); have HS6 := Lib.hid (HS5.out.below hb); clear hr6 hi6 hb z0 z1 z2 zf0 zf1 zf2; obtain ⟨z0, z1, z2, zf0, zf1, zf2⟩ := HS6.out.box)
  have HS7 := Lib.hid (HS6.out.put (s' := s3) HR6.out)
  have HB7 := Lib.hid (((HB6.out.setCell (p := ⟨g, 0, none⟩) HG.out (.slice A6 n6 c6)).setCell (p := ⟨g, 1, none⟩) HG.out (.int .i64 s3.c)).setCell (p := ⟨g, 2, none⟩) HG.out (.int .i64 s3.n))
  clear z0 z1 z2 zf0 zf1 zf2 HR6 HB6 HS6
  generalize ((w6.setCell ⟨g, 0, none⟩ (.slice A6 n6 c6)).setCell ⟨g, 1, none⟩ (.int .i64 s3.c)).setCell ⟨g, 2, none⟩ (.int .i64 s3.n) = W7 at *
  obtain ⟨z0, z1, z2, zf0, zf1, zf2⟩ := HS7.out.box
  go_wp2_with (first | (go_at_call 12; (with_reducible refine (H3.out _ _ _ _ HS7.out.rd).mono ?_); rintro e w8 ⟨A8, n8, c8, B8, m8, d8, rfl, hr8, hi8, hb⟩; have HB8 := Lib.hid (thn HB7.out hb); obtain rfl : m8 = 2 := hi8.len.symm; clear hr8 hi8 hb) | (go_at_call 10; (with_reducible refine (HN.out _ _).mono ?_); rintro e w9 ⟨rfl, rfl⟩))
  all_goals go_ret
  all_goals exact ⟨rfl, HB8.out.alloc HB8.out.size _⟩
end Go.Proofs.Ytlcmpngjmmbkcaa
