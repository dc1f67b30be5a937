/- How an expression is printed by the reference: the walk of printed. Conditions: an expression whose parts may be, read in memory; a short text. -/
import Derived.Test.YtnbgnofbeklmkaaGreatDoorUe
namespace Go.Proofs.YtnbgnofbeklmkaaGreatDoor
open Go.RowKit
set_option linter.unusedSimpArgs false
set_option linter.unusedVariables false

/-- What the reference's printing of an Arg does. -/
def RefOk (n : Nat) (y : Ar n) : Prop := ∀ (a : Option Addr) (cc : Nat) (w : World), RdE w (n - 1) a cc y.e.l → (prA n y).length ≤ 9600 →
  Calls Tryz.prog 36 #[y.e.val a cc] w fun e w' => e = .returned (.string ⟨(prA n y).toArray⟩) ∧ Below w.heap.size w w'

theorem mk_sz (l : List UInt8) : (⟨l.toArray⟩ : ByteArray).size = l.length := by rw [← bsz]
theorem add_zero_eq (ad : Addr) : ad.add (0 * 7) = ad := by unfold Addr.add; rw [if_pos (by omega)]

set_option maxHeartbeats 2000000 in
set_option maxRecDepth 100000 in
theorem rprinted_lit {n : Nat} (x : ExN (Ar n)) (hop : x.op = 0) (hv : litB x.v.k x.v.n x.v.s = true) (a : Option Addr) (cc : Nat) (w : World) :
    Calls Tryz.prog 36 #[x.val a cc] w fun e w' => e = .returned (.string ⟨(litL x.v).toArray⟩) ∧ Below w.heap.size w w' := by
  have HC := Lib.hid fun w' => rLiteral_any x.v hv w'
  clear hv
  obtain ⟨op, ⟨k, m, s, hr⟩, t, nm, ls⟩ := x
  unfold ExN.val
  unfold Vl.val at HC
  dsimp only at hop HC ⊢
  subst hop
  generalize litL ⟨k, m, s, hr⟩ = ps at *
  go_enter Tryz.func36, Tryz.ntmps36
  go_wp2_with (go_at_call 77; refine (HC.out _).mono ?_; rintro e w2 ⟨rfl, hb⟩; have HB := Lib.hid (below_of1 hb); clear hb)
  go_ret
  exact ⟨rfl, HB.out⟩

set_option maxHeartbeats 2000000 in
set_option maxRecDepth 100000 in
theorem rprinted_col {n : Nat} (x : ExN (Ar n)) (hop : x.op = 1) (h1 : x.t.size ≤ 16) (h2 : x.m.size ≤ 16) (a : Option Addr) (cc : Nat) (w : World) :
    Calls Tryz.prog 36 #[x.val a cc] w fun e w' => e = .returned (.string ⟨(colL x.t x.m).toArray⟩) ∧ Below w.heap.size w w' := by
  obtain ⟨op, ⟨k, m, s, hr⟩, t, nm, ls⟩ := x
  unfold ExN.val colL
  dsimp only at hop h1 h2 ⊢
  subst hop
  cases ht : emp t
  · have ht2 : t.toList.isEmpty = false := ht
    have ht3 : ¬ t.toList = [] := by simpa using ht2
    simp only [Bool.false_eq_true, if_false]
    clear ht
    go_enter Tryz.func36, Tryz.ntmps36
    go_wp2
    go_ret
    exact ⟨ret_str (ba_ext (by simp [alist])), below1 _ _⟩
  · have ht2 : t.toList.isEmpty = true := ht
    have ht3 : t.toList = [] := by simpa using ht2
    simp only [if_true]
    clear ht ht2
    go_enter Tryz.func36, Tryz.ntmps36
    go_wp2
    go_ret
    exact ⟨ret_str (ba_ext (by simp)), below1 _ _⟩

set_option maxHeartbeats 2000000 in
set_option maxRecDepth 100000 in
theorem rprinted_all {n : Nat} (x : ExN (Ar n)) (hop : x.op = 18) (hl : x.l = []) (a : Option Addr) (cc : Nat) (w : World) :
    Calls Tryz.prog 36 #[x.val a cc] w fun e w' => e = .returned (.string ⟨((fH 18).data.toList ++ (joinL (fB 18).data.toList (x.l.map (prA n)) ++ (fE 18).data.toList)).toArray⟩) ∧ Below w.heap.size w w' := by
  rw [hl]
  obtain ⟨op, ⟨k, m, s, hr⟩, t, nm, ls⟩ := x
  unfold ExN.val
  dsimp only at hop hl ⊢
  subst hop
  go_enter Tryz.func36, Tryz.ntmps36
  go_wp2
  go_ret
  exact ⟨rfl, below1 _ _⟩

set_option maxHeartbeats 4000000 in
set_option maxRecDepth 100000 in
theorem rprinted_un {n : Nat} (x : ExN (Ar n)) (o : Nat) (ho : o = 2 ∨ o = 3 ∨ o = 16 ∨ o = 17 ∨ o = 19 ∨ o = 20 ∨ o = 21 ∨ o = 22) (hop : x.op = o) (y : Ar n) (hl : x.l = [y]) (hy : RefOk n y) (a : Option Addr) (cc : Nat) (w : World) (hr : RdE w n a cc x.l) (hlen : (prA n y).length ≤ 9600) :
    Calls Tryz.prog 36 #[x.val a cc] w fun e w' => e = .returned (.string ⟨((fH o).data.toList ++ (joinL (fB o).data.toList (x.l.map (prA n)) ++ (fE o).data.toList)).toArray⟩) ∧ Below w.heap.size w w' := by
  rw [hl] at hr ⊢
  obtain ⟨ad, a1, k1, rfl, ⟨p0, p1, p2, p3, p4, p5, p6⟩, r1⟩ := hr.at_ (j := 0) (by simp)
  have hle : 1 ≤ cc := by have := hr.hdr.2.1; simpa using this
  have had0 := cell_lt p0
  rw [add_block] at had0
  rw [add_zero_eq] at p0 p1 p2 p3 p4 p5 p6
  simp only [List.getElem_cons_zero] at p0 p1 p2 p3 p4 p5 p6 r1
  have HC := Lib.hid fun w' hb => hy a1 k1 w' (r1.below (KE_ok _) hb) hlen
  clear hr hy r1
  have hlx : x.l.length = 1 := by rw [hl]; rfl
  obtain ⟨op, ⟨k, m, s, hv⟩, t, nm, ls⟩ := x
  unfold ExN.val at HC ⊢
  dsimp only at hop hl hlx ⊢
  subst hop hl
  simp only [List.length_singleton, List.map_cons, List.map_nil, joinL]
  generalize hps : prA n y = ps at *
  clear hps
  generalize y.e = z at *
  obtain ⟨op', ⟨k', m', s', hv'⟩, t', nm', lx⟩ := z
  dsimp only at p0 p1 p2 p3 p4 p5 p6 HC
  have hS : (⟨ps.toArray⟩ : ByteArray).data.toList = ps := rfl
  have hsz : (⟨ps.toArray⟩ : ByteArray).size ≤ 9600 := by rw [mk_sz]; exact hlen
  generalize (⟨ps.toArray⟩ : ByteArray) = S at HC hS hsz
  have HS := Lib.hid hS
  clear hS hlx hlen
  rcases ho with rfl | rfl | rfl | rfl | rfl | rfl | rfl | rfl
  all_goals
    go_enter Tryz.func36, Tryz.ntmps36
    go_wp2_with (go_at_call 36; refine (HC.out _ (below1 _ _)).mono ?_; rintro e w2 ⟨rfl, hb⟩; obtain ⟨x0, x1, x2, x3, x4, x5, x6⟩ := cells7 (heap1 hb); have HB := Lib.hid (below_of1 hb); have hz2 : w.heap.size < w2.heap.size := (by have := hb.size; simp at this; omega); clear hb)
    go_ret
    refine ⟨ret_str (ba_ext ?_), ?_⟩
    · simp only [alist, HS.out]
      rfl
    · first
      | exact HB.out
      | exact HB.out.alloc HB.out.size _

set_option maxHeartbeats 8000000 in
set_option maxRecDepth 100000 in
theorem rprinted_bin {n : Nat} (x : ExN (Ar n)) (o : Nat) (ho : o = 4 ∨ o = 5 ∨ o = 6 ∨ o = 7 ∨ o = 8 ∨ o = 9 ∨ o = 10 ∨ o = 11 ∨ o = 12 ∨ o = 13 ∨ o = 14 ∨ o = 15) (hop : x.op = o) (y z : Ar n) (hl : x.l = [y, z]) (hy : RefOk n y) (hz : RefOk n z) (a : Option Addr) (cc : Nat) (w : World) (hr : RdE w n a cc x.l) (hlen : (prA n y).length ≤ 9600) (hlez : (prA n z).length ≤ 9600) :
    Calls Tryz.prog 36 #[x.val a cc] w fun e w' => e = .returned (.string ⟨((fH o).data.toList ++ (joinL (fB o).data.toList (x.l.map (prA n)) ++ (fE o).data.toList)).toArray⟩) ∧ Below w.heap.size w w' := by
  rw [hl] at hr ⊢
  obtain ⟨ad, a1, k1, rfl, ⟨p0, p1, p2, p3, p4, p5, p6⟩, r1⟩ := hr.at_ (j := 0) (by simp)
  obtain ⟨ad', a2, k2, had, ⟨q0, q1, q2, q3, q4, q5, q6⟩, r2⟩ := hr.at_ (j := 1) (by simp)
  injection had with had
  subst had
  have hle : 2 ≤ cc := by have := hr.hdr.2.1; simpa using this
  have had0 := cell_lt p0
  rw [add_block] at had0
  rw [add_zero_eq] at p0 p1 p2 p3 p4 p5 p6
  simp only [List.getElem_cons_zero, List.getElem_cons_succ, Nat.one_mul] at p0 p1 p2 p3 p4 p5 p6 r1 q0 q1 q2 q3 q4 q5 q6 r2
  rw [show ad.add 7 = ⟨ad.block, ad.off + 7, none⟩ from add_ne (by decide)] at q0 q1 q2 q3 q4 q5 q6
  have HC := Lib.hid fun w' hb => hy a1 k1 w' (r1.below (KE_ok _) hb) hlen
  have HD := Lib.hid fun w' hb => hz a2 k2 w' (r2.below (KE_ok _) hb) hlez
  clear hr hy r1 r2 hz
  obtain ⟨op, ⟨k, m, s, hv⟩, t, nm, ls⟩ := x
  unfold ExN.val at HC HD ⊢
  dsimp only at hop hl ⊢
  subst hop hl
  simp only [List.length_cons, List.length_nil, List.map_cons, List.map_nil, joinL]
  generalize hps : prA n y = ps at *
  clear hps
  generalize hqs : prA n z = qs at *
  clear hqs
  generalize y.e = yy at *
  generalize z.e = zz at *
  obtain ⟨op', ⟨k', m', s', hv'⟩, t', nm', lx⟩ := yy
  obtain ⟨op2, ⟨k3, m2, s2, hv2⟩, t2, nm2, lx2⟩ := zz
  dsimp only at p0 p1 p2 p3 p4 p5 p6 HC q0 q1 q2 q3 q4 q5 q6 HD
  have hS : (⟨ps.toArray⟩ : ByteArray).data.toList = ps := rfl
  have hsz : (⟨ps.toArray⟩ : ByteArray).size ≤ 9600 := by rw [mk_sz]; exact hlen
  generalize (⟨ps.toArray⟩ : ByteArray) = S at HC hS hsz
  have hT : (⟨qs.toArray⟩ : ByteArray).data.toList = qs := rfl
  have htz : (⟨qs.toArray⟩ : ByteArray).size ≤ 9600 := by rw [mk_sz]; exact hlez
  generalize (⟨qs.toArray⟩ : ByteArray) = T at HD hT htz
  have HS := Lib.hid hS
  have HT := Lib.hid hT
  have HQ := Lib.hid (And.intro q0 (And.intro q1 (And.intro q2 (And.intro q3 (And.intro q4 (And.intro q5 q6))))))
  clear hS hlen hlez hT q0 q1 q2 q3 q4 q5 q6
  rcases ho with rfl | rfl | rfl | rfl | rfl | rfl | rfl | rfl | rfl | rfl | rfl | rfl
  all_goals
    go_enter Tryz.func36, Tryz.ntmps36
    go_upto_region 25 with (go_at_call 36; refine (HC.out _ (below1 _ _)).mono ?_; rintro e w2 ⟨rfl, hb⟩; obtain ⟨x0, x1, x2, x3, x4, x5, x6⟩ := cells7 (heap1 hb); have HB := Lib.hid (below_of1 hb); have hz2 : w.heap.size < w2.heap.size := (by have := hb.size; simp at this; omega); clear hb)
    obtain ⟨r0, r1, r2, r3, r4, r5, r6⟩ := HQ.out
    replace r0 := cell_keep r0 HB.out
    replace r1 := cell_keep r1 HB.out
    replace r2 := cell_keep r2 HB.out
    replace r3 := cell_keep r3 HB.out
    replace r4 := cell_keep r4 HB.out
    replace r5 := cell_keep r5 HB.out
    replace r6 := cell_keep r6 HB.out
    have had2 := Nat.lt_of_lt_of_le had0 HB.out.size
    clear HC HQ p0 p1 p2 p3 p4 p5 p6
    go_wp2_with (go_at_call 36; refine (HD.out _ (HB.out.alloc HB.out.size _)).mono ?_; rintro e w3 ⟨rfl, hb⟩; have HB3 := Lib.hid (below_call (below_of1 hb) HB.out HB.out.size); clear hb)
    go_ret
    refine ⟨ret_str (ba_ext ?_), HB3.out⟩
    simp only [alist, HS.out, HT.out]
    simp [fH, fB, fE, fTab]
end Go.Proofs.YtnbgnofbeklmkaaGreatDoor
