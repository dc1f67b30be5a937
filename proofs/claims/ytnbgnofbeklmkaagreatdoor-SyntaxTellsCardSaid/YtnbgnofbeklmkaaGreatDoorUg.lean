/- How an expression is printed by the program: the walks of putList, expr and its closure. Conditions: an expression whose parts may be, read in memory; the tables that strconv and strings read, as they are laid; lengths that every machine keeps. -/
import Derived.Test.YtnbgnofbeklmkaaGreatDoorUf
import Derived.Deep.LoopGhost
namespace Go.Proofs.YtnbgnofbeklmkaaGreatDoor
open Go.RowKit
set_option linter.unusedSimpArgs false
set_option linter.unusedVariables false

theorem ownCell {w1 : World} {g : Nat} {v : Value} {t : TypeId} (h : w1.heap[g]? = some (.cells #[v] t (0, 0))) : w1.cell? ⟨g, 0, none⟩ = some v := by simp [World.cell?, h]
theorem cells4 {w1 : World} {b : Nat} {a0 a1 a2 a3 : Value} {t : TypeId} (h : w1.heap[b]? = some (.cells #[a0, a1, a2, a3] t (0, 0))) :
    w1.cell? ⟨b, 0, none⟩ = some a0 ∧ w1.cell? ⟨b, 1, none⟩ = some a1 ∧ w1.cell? ⟨b, 2, none⟩ = some a2 ∧ w1.cell? ⟨b, 3, none⟩ = some a3 := by simp [World.cell?, h]
theorem heap_keep_alloc {w : World} {g : Nat} {o : Obj} (h : w.heap[g]? = some o) (o' : Obj) : (w.alloc o').heap[g]? = some o := by rw [Below.heap_alloc _ _ _ (blk_lt h), h]
/-- What printing an expression does, wherever it is asked. -/
def ExprOk (n : Nat) (y : Ar n) : Prop := ∀ (a : Option Addr) (cc B b : Nat) (l : List UInt8) (w : World), Pr B b l w → B ≤ w.heap.size → Env B w → RdK (KE (n - 1)) (fun b => b < B) w a cc y.e.l → l.length + (prA n y).length ≤ 140737488355328 →
  Calls Tryz.prog 75 #[.pointer (some ⟨b, 0, none⟩), y.e.val a cc] w fun e w' => e = .returned (.tuple #[]) ∧ Put B b (l ++ prA n y) w w'

set_option maxHeartbeats 2000000 in
set_option maxRecDepth 100000 in
theorem prexpr1_any {n : Nat} (y : Ar n) (hy : ExprOk n y) (a : Option Addr) (cc B b q : Nat) (l : List UInt8) (w : World) (hp : Pr B b l w) (hB : B ≤ w.heap.size) (he : Env B w) (hr : RdK (KE (n - 1)) (fun b => b < B) w a cc y.e.l)
    (hq : w.cell? ⟨q, 0, none⟩ = some (.pointer (some ⟨b, 0, none⟩))) (hlen : l.length + (prA n y).length ≤ 140737488355328) :
    Calls Tryz.prog 134 #[y.e.val a cc, .pointer (some ⟨q, 0, none⟩)] w fun e w' => e = .returned (.tuple #[]) ∧ Put B b (l ++ prA n y) w w' := by
  have HY := Lib.hid (hy a cc B b l)
  have HE := Lib.hid he
  have HP := Lib.hid hp
  have HR := Lib.hid hr
  have hql := cell_lt hq
  clear hy he hp hr
  generalize prA n y = ps at *
  generalize y.e = x at *
  obtain ⟨op, ⟨k, m, s, hv⟩, t, nm, ls⟩ := x
  unfold ExN.val at HY ⊢
  dsimp only at HY HR ⊢
  go_enter Tryz.func134, Tryz.ntmps134
  go_wp2_with (go_at_call 75; refine (HY.out _ (HP.out.alloc _) (by simp; omega) (HE.out.step hB (below1 _ _)) (HR.out.below (KE_ok _) (below1 _ _)) hlen).mono ?_; rintro e w2 ⟨rfl, hput⟩)
  go_end0
  exact ⟨rfl, Put.ahead hB (below1 _ _) hput⟩

set_option maxHeartbeats 4000000 in
set_option maxRecDepth 100000 in
theorem putList_any {n : Nat} (ls : List (Ar n)) (hy : ∀ y ∈ ls, ExprOk n y) (A : Option Addr) (c B b q : Nat) (l : List UInt8) (sep : ByteArray) (w : World) (hp : Pr B b l w) (hB : B ≤ w.heap.size) (he : Env B w) (hr : RdK (KE n) (fun b => b < B) w A c ls)
    (hq : w.heap[q]? = some (.cells #[.pointer (some ⟨b, 0, none⟩)] 109 (0, 0))) (hqb : q ≠ b) (hlen : l.length + (joinL sep.data.toList (ls.map (prA n))).length ≤ 140737488355328) :
    Calls Tryz.prog 133 #[.pointer (some ⟨b, 0, none⟩), .slice A ls.length c, .string sep, .func (.func 134) #[] #[.pointer (some ⟨q, 0, none⟩)]] w fun e w' => e = .returned (.tuple #[]) ∧ Put B b (l ++ joinL sep.data.toList (ls.map (prA n))) w w' := by
  have HY := Lib.hid hy
  have HE := Lib.hid he
  have HP := Lib.hid hp
  have HR := Lib.hid hr
  have HQ := Lib.hid hq
  have HL := Lib.hid hlen
  have hle : ls.length ≤ 9223372036854775807 := by have := hr.hdr.2; omega
  clear hy he hp hr hq hlen
  go_enter Tryz.func133, Tryz.ntmps133
  go_wp2_with fail
  go_loopw [12] (fun i wr => ∃ j : Nat, j ≤ ls.length ∧ i = .int .i64 j ∧ Put B b (l ++ joinL sep.data.toList ((ls.take j).map (prA n))) w wr) (fun i _ => ls.length - (intOf i).toNat)
  case atStart => exact ⟨0, by omega, rfl, by simpa [joinL] using Put.refl HP.out⟩
  case round =>
    obtain ⟨j, hj, rfl, hput⟩ := hrel
    have HU := Lib.hid hput
    have hBr : B ≤ wr.heap.size := Nat.le_trans hB hput.size
    have hbl := hput.1.lt
    clear hput
    by_cases hlt : j < ls.length
    · have hrr := HR.out.kept (KE_ok n) (w' := wr) fun b' hb' _ => HU.out.2.1.block b' hb'
      obtain ⟨ad, a1, k1, rfl, ⟨p0, p1, p2, p3, p4, p5, p6⟩, r1⟩ := hrr.at_ (j := j) hlt
      have hx : ls[j]? = some ls[j] := List.getElem?_eq_getElem hlt
      have hmem : ls[j] ∈ ls := List.getElem_mem hlt
      generalize ls[j] = y at p0 p1 p2 p3 p4 p5 p6 r1 hx hmem
      have HQ2 := Lib.hid (HU.out.keeps HQ.out (by decide) hqb)
      have hql := blk_lt HQ2.out
      have HE2 := Lib.hid (HE.out.below HU.out.2.1)
      have HR2 := Lib.hid r1
      have HY2 := Lib.hid (HY.out y hmem)
      have hj2 : joinL sep.data.toList ((ls.take (j + 1)).map (prA n)) = joinL sep.data.toList ((ls.take j).map (prA n)) ++ ((if j = 0 then [] else sep.data.toList) ++ prA n y) := by
        rw [List.take_add_one, hx, Option.toList_some, List.map_append, List.map_cons, List.map_nil, joinL_snoc]
        congr 2
        have : ((ls.take j).map (prA n) = []) = (j = 0) := by
          rw [List.map_eq_nil_iff, List.take_eq_nil_iff, eq_iff_iff]
          exact ⟨fun h => h.elim id (fun h => by rw [h] at hlt; cases hlt), Or.inl⟩
        simp only [this]
      have hl3 : (joinL sep.data.toList ((ls.take (j + 1)).map (prA n))).length ≤ (joinL sep.data.toList (ls.map (prA n))).length := by
        rw [List.map_take]; exact joinL_take _ _ _
      rw [hj2, List.length_append, List.length_append] at hl3
      have HJ := Lib.hid hj2
      generalize joinL sep.data.toList ((ls.take j).map (prA n)) = js at *
      have hl4 := HL.out
      generalize joinL sep.data.toList (ls.map (prA n)) = jall at *
      clear hrr r1 hj2 hx hmem
      have hc1 := fun (l' : List UInt8) (w' : World) hp' hB' he' hr' hq' hl' => prexpr1_any y HY2.out a1 k1 B b q l' w' hp' hB' he' hr' hq' hl'
      have hpl : Hid (∀ (l' : List UInt8), l'.length ≤ l.length + (js.length + (if j = 0 then ([] : List UInt8) else sep.data.toList).length) → l'.length + (prA n y).length ≤ 140737488355328) := Lib.hid fun l' h => by omega
      generalize prA n y = ps at *
      generalize y.e = x at *
      obtain ⟨op, ⟨k, m, s, hv⟩, t, nm, lx⟩ := x
      unfold ExN.val at hc1
      dsimp only at p0 p1 p2 p3 p4 p5 p6 hc1 HR2
      have HC := Lib.hid hc1
      clear hc1
      rcases Nat.eq_zero_or_pos j with h0 | hpos
      · have hd : decide ((0 : Int) < (j : Int)) = false := by simp; omega
        have hd2 : decide (0 < j) = false := by simp; omega
        simp only [if_pos h0, List.nil_append, List.length_nil, Nat.add_zero] at HJ hpl hl3
        have HCC := Lib.hid fun (o : Obj) => HC.out (l ++ js) (wr.alloc o) (HU.out.1.alloc o) (by simp; omega) (HE2.out.step hBr (below1 _ o)) (HR2.out.below (KE_ok _) (below1 _ o)) (ownCell (heap_keep_alloc HQ2.out o)) (hpl.out _ (by simp))
        have H0 := Lib.hid h0
        clear h0 HC
        go_wp2_with (go_at_call 134; refine (HCC.out _).mono ?_; rintro e w2 ⟨rfl, hput⟩)
        go_roundw
        case rel => exact ⟨j + 1, by omega, by go_num, by rw [HJ.out, ← List.append_assoc]; exact HU.out.trans (Put.ahead hBr (below1 _ _) hput)⟩
        case measure => simp [intOf]; omega
      · have hd : decide ((0 : Int) < (j : Int)) = true := by simp; omega
        have hd2 : decide (0 < j) = true := by simp; omega
        simp only [if_neg (show ¬ j = 0 by omega)] at HJ hpl hl3
        go_upto_region 5 with (go_at_call 69; refine (put1 B b (l ++ js) sep _ _ (by simp) (HU.out.1.alloc _) (by simp; omega) (by rw [List.length_append]; rw [bsz] at hl3; omega)).mono ?_; rintro e w2 ⟨rfl, hput⟩; obtain ⟨x0, x1, x2, x3, x4, x5, x6⟩ := cells7 (hput.keeps (heap_alloc_new wr _) (by decide) (by omega)); have HV := Lib.hid (Put.ahead hBr (below1 _ _) hput); clear hput)
        have hB3 : B ≤ w2.heap.size := Nat.le_trans hBr HV.out.size
        have HQ3 := Lib.hid (HV.out.keeps HQ2.out (by decide) hqb)
        have HE3 := Lib.hid (HE2.out.below HV.out.2.1)
        have HR3 := Lib.hid (HR2.out.kept (KE_ok _) (w' := w2) fun b' hb' _ => HV.out.2.1.block b' hb')
        have HCC := Lib.hid (HC.out (l ++ js ++ sep.data.toList) w2 HV.out.1 hB3 HE3.out HR3.out (ownCell HQ3.out) (hpl.out _ (by simp <;> omega)))
        clear HC
        go_wp2_with (go_at_call 134; refine HCC.out.mono ?_; rintro e w3 ⟨rfl, hput⟩)
        go_roundw
        case rel => exact ⟨j + 1, by omega, by go_num, by rw [HJ.out]; have h := HU.out.trans (HV.out.trans hput); simpa using h⟩
        case measure => simp [intOf]; omega
    · have HEnd : Hid (ls.take j = ls) := Lib.hid (List.take_of_length_le (by omega))
      go_wp2
      go_end0
      exact ⟨rfl, by have h := HU.out; rwa [HEnd.out] at h⟩

set_option maxHeartbeats 2000000 in
set_option maxRecDepth 100000 in
theorem prexpr_lit {n : Nat} (x : ExN (Ar n)) (hop : x.op = 0) (hv : litB x.v.k x.v.n x.v.s = true) (a : Option Addr) (cc B b : Nat) (l : List UInt8) (w : World) (hp : Pr B b l w) (hB : B ≤ w.heap.size) (he : Env B w) (hlen : l.length + (litL x.v).length ≤ 140737488355328) :
    Calls Tryz.prog 75 #[.pointer (some ⟨b, 0, none⟩), x.val a cc] w fun e w' => e = .returned (.tuple #[]) ∧ Put B b (l ++ litL x.v) w w' := by
  have HC := Lib.hid fun w' hp' hB' he' => literal_any x.v hv B b l w' hp' hB' he' hlen
  have HP := Lib.hid hp
  have HE := Lib.hid he
  clear hp he hv hlen
  obtain ⟨op, ⟨k, m, s, hr⟩, t, nm, ls⟩ := x
  unfold ExN.val
  unfold Vl.val at HC
  dsimp only at hop HC ⊢
  subst hop
  generalize litL ⟨k, m, s, hr⟩ = ps at *
  go_enter Tryz.func75, Tryz.ntmps75
  go_wp2_with (go_at_call 130; refine (HC.out _ ((HP.out.alloc _).alloc _) (by simp; omega) (HE.out.step hB (below2 _ _ _))).mono ?_; rintro e w2 ⟨rfl, hput⟩)
  exact bodyPost_ret (v := .tuple #[]) (by simp [results, Tryz.results75, go_sem]) rfl ⟨rfl, Put.ahead hB (below2 _ _ _) hput⟩

set_option maxHeartbeats 2000000 in
set_option maxRecDepth 100000 in
theorem prexpr_col {n : Nat} (x : ExN (Ar n)) (hop : x.op = 1) (a : Option Addr) (cc B b : Nat) (l : List UInt8) (w : World) (hp : Pr B b l w) (hB : B ≤ w.heap.size) (hlen : l.length + (colL x.t x.m).length ≤ 140737488355328) :
    Calls Tryz.prog 75 #[.pointer (some ⟨b, 0, none⟩), x.val a cc] w fun e w' => e = .returned (.tuple #[]) ∧ Put B b (l ++ colL x.t x.m) w w' := by
  have HC := Lib.hid fun w' hp' hB' => column_any x a cc B b l w' hp' hB' hlen
  have HP := Lib.hid hp
  clear hp hlen
  generalize colL x.t x.m = ps at *
  obtain ⟨op, ⟨k, m, s, hr⟩, t, nm, ls⟩ := x
  unfold ExN.val at HC ⊢
  dsimp only at hop HC ⊢
  subst hop
  go_enter Tryz.func75, Tryz.ntmps75
  go_wp2_with (go_at_call 131; refine (HC.out _ ((HP.out.alloc _).alloc _) (by simp; omega)).mono ?_; rintro e w2 ⟨rfl, hput⟩)
  exact bodyPost_ret (v := .tuple #[]) (by simp [results, Tryz.results75, go_sem]) rfl ⟨rfl, Put.ahead hB (below2 _ _ _) hput⟩

set_option maxHeartbeats 4000000 in
set_option maxRecDepth 100000 in
theorem prexpr_op {n : Nat} (x : ExN (Ar n)) (o : Nat) (hop : x.op = o) (h2 : 2 ≤ o) (h23 : o < 23) (hy : ∀ y ∈ x.l, ExprOk n y) (a : Option Addr) (cc B b : Nat) (l : List UInt8) (w : World) (hp : Pr B b l w) (hB : B ≤ w.heap.size) (he : Env B w)
    (hr : RdK (KE n) (fun b => b < B) w a cc x.l) (hlen : l.length + ((fH o).data.toList ++ (joinL (fB o).data.toList (x.l.map (prA n)) ++ (fE o).data.toList)).length ≤ 140737488355328) :
    Calls Tryz.prog 75 #[.pointer (some ⟨b, 0, none⟩), x.val a cc] w fun e w' => e = .returned (.tuple #[]) ∧ Put B b (l ++ ((fH o).data.toList ++ (joinL (fB o).data.toList (x.l.map (prA n)) ++ (fE o).data.toList))) w w' := by
  have HF0 := Lib.hid fun w => formOfOp_yes o h23 w
  have hlen1 : l.length + (fH o).size ≤ 140737488355328 := by simp only [List.length_append, bsz] at hlen; omega
  have hlen2 : (l ++ (fH o).data.toList).length + (joinL (fB o).data.toList (x.l.map (prA n))).length ≤ 140737488355328 := by simp only [List.length_append, bsz] at hlen ⊢; omega
  have hlen3 : (l ++ (fH o).data.toList ++ joinL (fB o).data.toList (x.l.map (prA n))).length + (fE o).size ≤ 140737488355328 := by simp only [List.length_append, bsz] at hlen ⊢; omega
  have HC := Lib.hid fun (q : Nat) (w' : World) hp' hB' he' hr' hq' hqb' => putList_any x.l hy a cc B b q (l ++ (fH o).data.toList) (fB o) w' hp' hB' he' hr' hq' hqb' hlen2
  have HP := Lib.hid hp
  have HE := Lib.hid he
  have HR := Lib.hid hr
  have hbl := hp.lt
  clear hp he hy hlen hlen2 hr
  generalize joinL (fB o).data.toList (x.l.map (prA n)) = js at *
  obtain ⟨op, ⟨k, m, s, hv⟩, t, nm, ls⟩ := x
  unfold ExN.val
  dsimp only at hop HC HR ⊢
  subst hop
  have hn0 : ((o : Int) == 0) = false := by simp; omega
  have hn1 : ((o : Int) == 1) = false := by simp; omega
  have hi0 : ¬ o = 0 := by omega
  have hi1 : ¬ o = 1 := by omega
  have hmf : ∀ (fn : Fn) (first cap : Array Value) (w : World), (Instr.makeFunc fn first cap).run Tryz.prog w = .ok (.func fn first cap) w := fun _ _ _ _ => rfl
  have hL1 := Lib.hid hlen1
  have hL3 := Lib.hid hlen3
  generalize fA o = kA at HF0
  generalize fH o = kH at *
  generalize fB o = kB at *
  generalize fE o = kE at *
  clear hlen1 hlen3
  go_enter Tryz.func75, Tryz.ntmps75
  go_upto_region 7 with (go_at_call 132; refine (HF0.out _).mono ?_; rintro e w1 ⟨rfl, hb⟩)
  have hW0 : (((w.alloc (.cells #[.pointer (some ⟨b, 0, none⟩)] 109)).alloc (.cells #[.int .i64 o, .int .i64 k, .int .i64 m, .string s, .string t, .string nm, .slice a ls.length cc] 51))).heap.size = w.heap.size + 2 := by simp
  have hq1 : w1.heap[w.heap.size]? = some (.cells #[.pointer (some ⟨b, 0, none⟩)] 109 (0, 0)) := (hb.block _ (by rw [hW0]; omega)).trans (heap_keep_alloc (heap_alloc_new w _) _)
  have hx1 : w1.heap[w.heap.size + 1]? = some (.cells #[.int .i64 o, .int .i64 k, .int .i64 m, .string s, .string t, .string nm, .slice a ls.length cc] 51 (0, 0)) := (hb.block _ (by rw [hW0]; omega)).trans (heap_two w _ _)
  have hb1 : Below w.heap.size w w1 := below_of2 hb
  have hs1 : w.heap.size + 2 ≤ w1.heap.size := by have := hb.size; omega
  clear hb hW0
  have hf2 := heap_alloc_new w1 (.cells #[.int .i64 kA, .string kH, .string kB, .string kE] 168)
  have hq2 := heap_keep_alloc hq1 (.cells #[.int .i64 kA, .string kH, .string kB, .string kE] 168)
  have hx2 := heap_keep_alloc hx1 (.cells #[.int .i64 kA, .string kH, .string kB, .string kE] 168)
  have hb2 : Below w.heap.size w (w1.alloc (.cells #[.int .i64 kA, .string kH, .string kB, .string kE] 168)) := hb1.alloc hb1.size _
  generalize w1.alloc (.cells #[.int .i64 kA, .string kH, .string kB, .string kE] 168) = W at *
  clear hq1 hx1 hb1
  generalize w1.heap.size = f at *
  have HU := Lib.hid ((Put.refl HP.out).below hB hb2)
  obtain ⟨f0, f1, f2, f3⟩ := cells4 hf2
  have q0 := ownCell hq2
  have HQ := Lib.hid hq2
  have HX := Lib.hid hx2
  have HF := Lib.hid hf2
  clear hq2 hx2 hf2 hb2
  go_upto_region 8 with (go_at_call 69; refine (put1 B b l kH _ _ rfl HU.out.1 (Nat.le_trans hB HU.out.size) hL1.out).mono ?_; rintro e w2 ⟨rfl, hput⟩)
  replace HQ := Lib.hid (hput.keeps HQ.out (by decide) (by omega))
  replace HX := Lib.hid (hput.keeps HX.out (by decide) (by omega))
  replace HF := Lib.hid (hput.keeps HF.out (by decide) (by omega))
  replace HU := Lib.hid (HU.out.trans hput)
  clear f0 f1 f2 f3 q0 hput
  obtain ⟨f0, f1, f2, f3⟩ := cells4 HF.out
  have q0 := ownCell HQ.out
  obtain ⟨x0, x1, x2, x3, x4, x5, x6⟩ := cells7 HX.out
  go_upto_region 9 with (go_at_call 133; refine (HC.out w.heap.size _ HU.out.1 (Nat.le_trans hB HU.out.size) (HE.out.below HU.out.2.1) (HR.out.kept (KE_ok n) fun b' hb' _ => HU.out.2.1.block b' hb') HQ.out (by omega)).mono ?_; rintro e w3 ⟨rfl, hput⟩)
  replace HQ := Lib.hid (hput.keeps HQ.out (by decide) (by omega))
  replace HF := Lib.hid (hput.keeps HF.out (by decide) (by omega))
  replace HU := Lib.hid (HU.out.trans hput)
  clear f0 f1 f2 f3 q0 hput x0 x1 x2 x3 x4 x5 x6
  obtain ⟨f0, f1, f2, f3⟩ := cells4 HF.out
  have q0 := ownCell HQ.out
  go_wp2_with (go_at_call 69; refine (put1 B b (l ++ kH.data.toList ++ js) kE _ _ rfl HU.out.1 (Nat.le_trans hB HU.out.size) hL3.out).mono ?_; rintro e w4 ⟨rfl, hput⟩)
  go_end0
  exact ⟨rfl, by have h := HU.out.trans hput; simpa using h⟩

theorem prexprX_any {n : Nat} (hE : ∀ y : Ar n, okP n y = true → ExprOk n y) (x : ExN (Ar n)) (hx : okX x = true) (a : Option Addr) (cc B b : Nat) (l : List UInt8) (w : World) (hp : Pr B b l w) (hB : B ≤ w.heap.size) (he : Env B w)
    (hr : RdK (KE n) (fun b => b < B) w a cc x.l) (hlen : l.length + (prX x).length ≤ 140737488355328) :
    Calls Tryz.prog 75 #[.pointer (some ⟨b, 0, none⟩), x.val a cc] w fun e w' => e = .returned (.tuple #[]) ∧ Put B b (l ++ prX x) w w' := by
  unfold okX at hx
  rw [Bool.and_eq_true, List.all_eq_true] at hx
  obtain ⟨hpart, hall⟩ := hx
  obtain ⟨⟨h0, h1⟩, _, _⟩ := part_op hpart
  unfold partB at hpart
  rw [Bool.and_eq_true] at hpart
  have hpart := hpart.2
  obtain ⟨o, ho⟩ := Int.eq_ofNat_of_zero_le h0
  unfold prX prL at hlen ⊢
  by_cases e0 : x.op = 0
  · rw [if_pos e0] at hpart hlen ⊢
    simp only [Bool.and_eq_true] at hpart
    exact prexpr_lit x e0 hpart.2 a cc B b l w hp hB he hlen
  by_cases e1 : x.op = 1
  · rw [if_neg e0, if_pos e1] at hlen ⊢
    exact prexpr_col x e1 a cc B b l w hp hB hlen
  · rw [if_neg e0, if_neg e1] at hlen ⊢
    rw [ho, Int.toNat_natCast] at hlen ⊢
    exact prexpr_op x o ho (by omega) (by omega) (fun y hy => hE y (hall y hy)) a cc B b l w hp hB he hr hlen
theorem prexpr_all : ∀ (n : Nat) (y : Ar n), okP n y = true → ExprOk n y
  | 0, y, _ => Empty.elim y
  | n + 1, y, hy => fun a cc B b l w hp hB he hr hlen => prexprX_any (prexpr_all n) y hy a cc B b l w hp hB he hr hlen
end Go.Proofs.YtnbgnofbeklmkaaGreatDoor
