/- How lists of expressions, parts of statements and what stands in them are printed by the program: the walks of putList, putPart, exprs and the closures. Conditions: what may be, read in memory; the tables that strconv and strings read, as they are laid; lengths that every machine keeps. -/
import Derived.Test.YtnbgnofbeklmkaaGreatDoorUi
import Derived.Test.YtnbgnofbeklmkaaGreatDoorGb

namespace Go.Proofs.YtnbgnofbeklmkaaGreatDoor
open Go.RowKit
set_option linter.unusedSimpArgs false
set_option linter.unusedVariables false

set_option maxHeartbeats 2000000 in
set_option maxRecDepth 100000 in
theorem prexprs1_any {n : Nat} (y : Ar n) (hy : ExprOk n y) (a : Option Addr) (cc B b q : Nat) (l : List UInt8) (w : World) (hp : Pr B b l w) (hB : B ≤ w.heap.size) (he : Env B w) (hr : RdK (KE (n - 1)) (fun b => b < B) w a cc y.e.l)
    (hq : w.cell? ⟨q, 0, none⟩ = some (.pointer (some ⟨b, 0, none⟩))) (hlen : l.length + (prA n y).length ≤ 140737488355328) :
    Calls Tryz.prog 128 #[y.e.val a cc, .pointer (some ⟨q, 0, none⟩)] w fun e w' => e = .returned (.tuple #[]) ∧ Put B b (l ++ prA n y) w w' := by
  have HY := Lib.hid (hy a cc B b l)
  have HE := Lib.hid he
  have HP := Lib.hid hp
  have HR := Lib.hid hr
  have hql := cell_lt hq
  clear hy he hp hr
  generalize prA n y = ps at *
  generalize y.e = x at *
  obtain ⟨op, ⟨k, m, s, hv⟩, t, nm, ls⟩ := x
  unfold ExN.val at HY ⊢
  dsimp only at HY HR ⊢
  go_enter Tryz.func128, Tryz.ntmps128
  go_wp2_with (go_at_call 75; refine (HY.out _ (HP.out.alloc _) (by simp; omega) (HE.out.step hB (below1 _ _)) (HR.out.below (KE_ok _) (below1 _ _)) hlen).mono ?_; rintro e w2 ⟨rfl, hput⟩)
  go_end0
  exact ⟨rfl, Put.ahead hB (below1 _ _) hput⟩

set_option maxHeartbeats 4000000 in
set_option maxRecDepth 100000 in
theorem putListE_any {n : Nat} (ls : List (Ar n)) (hy : ∀ y ∈ ls, ExprOk n y) (A : Option Addr) (c B b q : Nat) (l : List UInt8) (sep : ByteArray) (w : World) (hp : Pr B b l w) (hB : B ≤ w.heap.size) (he : Env B w) (hr : RdK (KE n) (fun b => b < B) w A c ls)
    (hq : w.heap[q]? = some (.cells #[.pointer (some ⟨b, 0, none⟩)] 109 (0, 0))) (hqb : q ≠ b) (hlen : l.length + (joinL sep.data.toList (ls.map (prA n))).length ≤ 140737488355328) :
    Calls Tryz.prog 133 #[.pointer (some ⟨b, 0, none⟩), .slice A ls.length c, .string sep, .func (.func 128) #[] #[.pointer (some ⟨q, 0, none⟩)]] w fun e w' => e = .returned (.tuple #[]) ∧ Put B b (l ++ joinL sep.data.toList (ls.map (prA n))) w w' := by
  have HY := Lib.hid hy
  have HE := Lib.hid he
  have HP := Lib.hid hp
  have HR := Lib.hid hr
  have HQ := Lib.hid hq
  have HL := Lib.hid hlen
  have hle : ls.length ≤ 9223372036854775807 := by have := hr.hdr.2; omega
  clear hy he hp hr hq hlen
  go_enter Tryz.func133, Tryz.ntmps133
  go_wp2_with fail
  go_loopw [12] (fun i wr => ∃ j : Nat, j ≤ ls.length ∧ i = .int .i64 j ∧ Put B b (l ++ joinL sep.data.toList ((ls.take j).map (prA n))) w wr) (fun i _ => ls.length - (intOf i).toNat)
  case atStart => exact ⟨0, by omega, rfl, by simpa [joinL] using Put.refl HP.out⟩
  case round =>
    obtain ⟨j, hj, rfl, hput⟩ := hrel
    have HU := Lib.hid hput
    have hBr : B ≤ wr.heap.size := Nat.le_trans hB hput.size
    have hbl := hput.1.lt
    clear hput
    by_cases hlt : j < ls.length
    · have hrr := HR.out.kept (KE_ok n) (w' := wr) fun b' hb' _ => HU.out.2.1.block b' hb'
      obtain ⟨ad, a1, k1, rfl, ⟨p0, p1, p2, p3, p4, p5, p6⟩, r1⟩ := hrr.at_ (j := j) hlt
      have hx : ls[j]? = some ls[j] := List.getElem?_eq_getElem hlt
      have hmem : ls[j] ∈ ls := List.getElem_mem hlt
      generalize ls[j] = y at p0 p1 p2 p3 p4 p5 p6 r1 hx hmem
      have HQ2 := Lib.hid (HU.out.keeps HQ.out (by decide) hqb)
      have hql := blk_lt HQ2.out
      have HE2 := Lib.hid (HE.out.below HU.out.2.1)
      have HY2 := Lib.hid (HY.out y hmem)
      have HR2 := Lib.hid r1
      have hj2 : joinL sep.data.toList ((ls.take (j + 1)).map (prA n)) = joinL sep.data.toList ((ls.take j).map (prA n)) ++ ((if j = 0 then [] else sep.data.toList) ++ (prA n) y) := by
        rw [List.take_add_one, hx, Option.toList_some, List.map_append, List.map_cons, List.map_nil, joinL_snoc]
        congr 2
        have : ((ls.take j).map (prA n) = []) = (j = 0) := by
          rw [List.map_eq_nil_iff, List.take_eq_nil_iff, eq_iff_iff]
          exact ⟨fun h => h.elim id (fun h => by rw [h] at hlt; cases hlt), Or.inl⟩
        simp only [this]
      have hl3 : (joinL sep.data.toList ((ls.take (j + 1)).map (prA n))).length ≤ (joinL sep.data.toList (ls.map (prA n))).length := by
        rw [List.map_take]; exact joinL_take _ _ _
      rw [hj2, List.length_append, List.length_append] at hl3
      have HJ := Lib.hid hj2
      generalize joinL sep.data.toList ((ls.take j).map (prA n)) = js at *
      have hl4 := HL.out
      generalize joinL sep.data.toList (ls.map (prA n)) = jall at *
      clear hrr r1 hj2 hx hmem
      have hc1 := fun (l' : List UInt8) (w' : World) hp' hB' he' hr' hq' hl' => prexprs1_any y HY2.out a1 k1 B b q l' w' hp' hB' he' hr' hq' hl'
      have hpl : Hid (∀ (l' : List UInt8), l'.length ≤ l.length + (js.length + (if j = 0 then ([] : List UInt8) else sep.data.toList).length) → l'.length + ((prA n) y).length ≤ 140737488355328) := Lib.hid fun l' h => by omega
      generalize (prA n) y = ps at *
      clear HY2
      generalize y.e = x at *
      obtain ⟨op, ⟨k, m, s, hv⟩, t, nm, lx⟩ := x
      unfold ExN.val at hc1
      dsimp only at p0 p1 p2 p3 p4 p5 p6 hc1 HR2
      have HC := Lib.hid hc1
      clear hc1
      rcases Nat.eq_zero_or_pos j with h0 | hpos
      · have hd : decide ((0 : Int) < (j : Int)) = false := by simp; omega
        have hd2 : decide (0 < j) = false := by simp; omega
        simp only [if_pos h0, List.nil_append, List.length_nil, Nat.add_zero] at HJ hpl hl3
        have HCC := Lib.hid fun (o : Obj) => HC.out (l ++ js) (wr.alloc o) (HU.out.1.alloc o) (by simp; omega) (HE2.out.step hBr (below1 _ o)) (HR2.out.below (KE_ok _) (below1 _ o)) (ownCell (heap_keep_alloc HQ2.out o)) (hpl.out _ (by simp))
        have H0 := Lib.hid h0
        clear h0 HC
        go_wp2_with (go_at_call 128; refine (HCC.out _).mono ?_; rintro e w2 ⟨rfl, hput⟩)
        go_roundw
        case rel => exact ⟨j + 1, by omega, by go_num, by rw [HJ.out, ← List.append_assoc]; exact HU.out.trans (Put.ahead hBr (below1 _ _) hput)⟩
        case measure => simp [intOf]; omega
      · have hd : decide ((0 : Int) < (j : Int)) = true := by simp; omega
        have hd2 : decide (0 < j) = true := by simp; omega
        simp only [if_neg (show ¬ j = 0 by omega)] at HJ hpl hl3
        go_upto_region 5 with (go_at_call 69; refine (put1 B b (l ++ js) sep _ _ (by simp) (HU.out.1.alloc _) (by simp; omega) (by rw [List.length_append]; rw [bsz] at hl3; omega)).mono ?_; rintro e w2 ⟨rfl, hput⟩; obtain ⟨x0, x1, x2, x3, x4, x5, x6⟩ := cells7 (hput.keeps (heap_alloc_new wr _) (by decide) (by omega)); have HV := Lib.hid (Put.ahead hBr (below1 _ _) hput); clear hput)
        have hB3 : B ≤ w2.heap.size := Nat.le_trans hBr HV.out.size
        have HQ3 := Lib.hid (HV.out.keeps HQ2.out (by decide) hqb)
        have HE3 := Lib.hid (HE2.out.below HV.out.2.1)
        have HR3 := Lib.hid (HR2.out.kept (KE_ok _) (w' := w2) fun b' hb' _ => HV.out.2.1.block b' hb')
        have HCC := Lib.hid (HC.out (l ++ js ++ sep.data.toList) w2 HV.out.1 hB3 HE3.out HR3.out (ownCell HQ3.out) (hpl.out _ (by simp <;> omega)))
        clear HC
        go_wp2_with (go_at_call 128; refine HCC.out.mono ?_; rintro e w3 ⟨rfl, hput⟩)
        go_roundw
        case rel => exact ⟨j + 1, by omega, by go_num, by rw [HJ.out]; have h := HU.out.trans (HV.out.trans hput); simpa using h⟩
        case measure => simp [intOf]; omega
    · have HEnd : Hid (ls.take j = ls) := Lib.hid (List.take_of_length_le (by omega))
      go_wp2
      go_end0
      exact ⟨rfl, by have h := HU.out; rwa [HEnd.out] at h⟩

set_option maxHeartbeats 2000000 in
set_option maxRecDepth 100000 in
theorem putPartE_any {n : Nat} (ls : List (Ar n)) (hy : ∀ y ∈ ls, ExprOk n y) (A : Option Addr) (c B b q : Nat) (l : List UInt8) (ws : ByteArray) (w : World) (hp : Pr B b l w) (hB : B ≤ w.heap.size) (he : Env B w) (hr : RdK (KE n) (fun b => b < B) w A c ls)
    (hq : w.heap[q]? = some (.cells #[.pointer (some ⟨b, 0, none⟩)] 109 (0, 0))) (hqb : q ≠ b) (hlen : l.length + (partL ws.data.toList (prA n) ls).length ≤ 140737488355328) :
    Calls Tryz.prog 127 #[.pointer (some ⟨b, 0, none⟩), .string ws, .slice A ls.length c, .func (.func 128) #[] #[.pointer (some ⟨q, 0, none⟩)]] w fun e w' => e = .returned (.tuple #[]) ∧ Put B b (l ++ partL ws.data.toList (prA n) ls) w w' := by
  rcases Nat.eq_zero_or_pos ls.length with h0 | h0
  · have hd : decide ((0 : Int) < (ls.length : Int)) = false := by rw [h0]; rfl
    have hd2 : decide (0 < ls.length) = false := by rw [h0]; rfl
    have HP := Lib.hid (part_off (ws := ws.data.toList) (f := (prA n)) h0)
    have HR := Lib.hid (Put.refl hp)
    clear hy he hr hq hlen h0 hp
    go_enter Tryz.func127, Tryz.ntmps127
    go_wp2_with fail
    go_end0
    exact ⟨rfl, by rw [HP.out, List.append_nil]; exact HR.out⟩
  · have hpt := part_on (ws := ws.data.toList) (f := (prA n)) h0
    rw [hpt] at hlen
    have hd : decide ((0 : Int) < (ls.length : Int)) = true := by simp; omega
    have hd2 : decide (0 < ls.length) = true := by simp; omega
    have HPT := Lib.hid hpt
    simp only [List.length_append] at hlen
    have HPW := Lib.hid (put1 B b l ws w.heap.size w rfl hp hB (by rw [bsz] at hlen; omega))
    have HC := Lib.hid fun (w' : World) (hput : Put B b (l ++ ws.data.toList) w w') => putListE_any ls hy A c B b q (l ++ ws.data.toList) ⟨#[44, 32]⟩ w' hput.1 (Nat.le_trans hB hput.size) (he.below hput.2.1) (hr.kept (KE_ok n) fun b' hb' _ => hput.2.1.block b' hb') (hput.keeps hq (by decide) hqb) hqb (by rw [List.length_append]; exact Nat.le_trans (Nat.le_of_eq (Nat.add_assoc _ _ _)) hlen)
    clear hy he hr hq hlen h0 hp hpt
    go_enter Tryz.func127, Tryz.ntmps127
    go_upto_region 2 with (go_at_call 69; refine HPW.out.mono ?_; rintro e w2 ⟨rfl, hput⟩)
    have HV := Lib.hid hput
    clear hput
    go_wp2_with (go_at_call 133; refine (HC.out _ HV.out).mono ?_; rintro e w3 ⟨rfl, hput⟩)
    go_end0
    refine ⟨rfl, ?_⟩
    have h := HV.out.trans hput
    rw [HPT.out, ← List.append_assoc]
    exact h

set_option maxHeartbeats 2000000 in
set_option maxRecDepth 100000 in
theorem prexprs_any {n : Nat} (ls : List (Ar n)) (hy : ∀ y ∈ ls, okP n y = true) (A : Option Addr) (c B b : Nat) (l : List UInt8) (ws : ByteArray) (w : World) (hp : Pr B b l w) (hB : B ≤ w.heap.size) (he : Env B w) (hr : RdK (KE n) (fun b => b < B) w A c ls) (hlen : l.length + (partL ws.data.toList (prA n) ls).length ≤ 140737488355328) :
    Calls Tryz.prog 72 #[.pointer (some ⟨b, 0, none⟩), .string ws, .slice A ls.length c] w fun e w' => e = .returned (.tuple #[]) ∧ Put B b (l ++ partL ws.data.toList (prA n) ls) w w' := by
  have HC := Lib.hid (putPartE_any ls (fun y h => prexpr_all n y (hy y h)) A c B b w.heap.size l ws (w.alloc (.cells #[.pointer (some ⟨b, 0, none⟩)] 109)) (hp.alloc _) (by simp; omega) (he.step hB (below1 _ _)) (hr.below (KE_ok n) (below1 _ _)) (heap_alloc_new w _) (by have := hp.lt; omega) hlen)
  clear hy hp he hr hlen
  go_enter Tryz.func72, Tryz.ntmps72
  go_wp2_with (go_at_call 127; refine HC.out.mono ?_; rintro e w2 ⟨rfl, hput⟩)
  go_end0
  exact ⟨rfl, Put.ahead hB (below1 _ _) hput⟩


/-- What a row of expressions keeps to be printed. -/
def RowOk {n : Nat} (r : List (Ar n)) : Prop := ∀ y ∈ r, okP n y = true
/-- What a column's new value keeps to be printed. -/
def SetOk {n : Nat} (s : Sx n) : Prop := okX s.x = true
/-- The kinds' names, as they are laid. -/
def kindO : Obj := .cells #[.string ⟨#[]⟩, .string ⟨#[73, 78, 84]⟩, .string ⟨#[66, 79, 79, 76]⟩, .string ⟨#[84, 69, 88, 84]⟩] 158 (0, 0)
theorem cells3_of {w1 : World} {b : Nat} {a0 a1 a2 : Value} {t : TypeId} (h : w1.heap[b]? = some (.cells #[a0, a1, a2] t (0, 0))) : w1.cell? ⟨b, 0, none⟩ = some a0 ∧ w1.cell? ⟨b, 1, none⟩ = some a1 ∧ w1.cell? ⟨b, 2, none⟩ = some a2 := by simp [World.cell?, h]
theorem cells8_of {w1 : World} {b : Nat} {a0 a1 a2 a3 a4 a5 a6 a7 : Value} {t : TypeId} (h : w1.heap[b]? = some (.cells #[a0, a1, a2, a3, a4, a5, a6, a7] t (0, 0))) :
    w1.cell? ⟨b, 0, none⟩ = some a0 ∧ w1.cell? ⟨b, 1, none⟩ = some a1 ∧ w1.cell? ⟨b, 2, none⟩ = some a2 ∧ w1.cell? ⟨b, 3, none⟩ = some a3 ∧ w1.cell? ⟨b, 4, none⟩ = some a4 ∧ w1.cell? ⟨b, 5, none⟩ = some a5 ∧ w1.cell? ⟨b, 6, none⟩ = some a6 ∧ w1.cell? ⟨b, 7, none⟩ = some a7 := by simp [World.cell?, h]
theorem cells2_of {w1 : World} {b : Nat} {a0 a1 : Value} {t : TypeId} (h : w1.heap[b]? = some (.cells #[a0, a1] t (0, 0))) : w1.cell? ⟨b, 0, none⟩ = some a0 ∧ w1.cell? ⟨b, 1, none⟩ = some a1 := by simp [World.cell?, h]
theorem put_le {l : List UInt8} {a b c : Nat} (h : l.length + (a + b) ≤ c) : l.length + a ≤ c := by omega

set_option maxHeartbeats 2000000 in
set_option maxRecDepth 100000 in
theorem prstmt1_any {n : Nat} (y : List (Ar n)) (hy : RowOk y) (a : Option Addr) (cc B b q : Nat) (l : List UInt8) (w : World) (hp : Pr B b l w) (hB : B ≤ w.heap.size) (he : Env B w) (hr : RdK (KE n) (fun b => b < B) w a cc y)
    (hq : w.heap[q]? = some (.cells #[.pointer (some ⟨b, 0, none⟩)] 109 (0, 0))) (hqb : q ≠ b) (hlen : l.length + (rowT y).length ≤ 140737488355328) :
    Calls Tryz.prog 71 #[.slice a y.length cc, .pointer (some ⟨q, 0, none⟩)] w fun e w' => e = .returned (.tuple #[]) ∧ Put B b (l ++ rowT y) w w' := by
  have hrt : rowT y = partL wbk (prA n) y ++ [41] := rfl
  rw [hrt] at hlen ⊢
  rw [List.length_append] at hlen
  have HC : Hid (Calls Tryz.prog 72 #[.pointer (some ⟨b, 0, none⟩), .string ⟨#[40]⟩, .slice a y.length cc] w fun e w' => e = .returned (.tuple #[]) ∧ Put B b (l ++ partL wbk (prA n) y) w w') := Lib.hid (prexprs_any y hy a cc B b l ⟨#[40]⟩ w hp hB he hr (put_le hlen))
  have HQ := Lib.hid hq
  have HN := Lib.hid hlen
  have q0 := ownCell hq
  clear hy he hr hlen hp hrt
  generalize partL wbk (prA n) y = ps at *
  go_enter Tryz.func71, Tryz.ntmps71
  go_upto_region 1 with (go_at_call 72; refine HC.out.mono ?_; rintro e w2 ⟨rfl, hput⟩)
  have q2 := ownCell (hput.keeps HQ.out (by decide) hqb)
  have HP2 := Lib.hid (put1 B b (l ++ ps) ⟨#[41]⟩ w2.heap.size w2 rfl hput.1 (Nat.le_trans hB hput.size) (by have := HN.out; rw [List.length_append]; simp only [List.length_cons, List.length_nil] at this; have e : (⟨#[41]⟩ : ByteArray).size = 1 := rfl; rw [e]; omega))
  have HV := Lib.hid hput
  clear hput
  go_wp2_with (go_at_call 69; refine HP2.out.mono ?_; rintro e w3 ⟨rfl, hput⟩)
  go_end0
  refine ⟨rfl, ?_⟩
  have h := HV.out.trans hput
  rw [← List.append_assoc]
  exact h

set_option maxHeartbeats 2000000 in
set_option maxRecDepth 100000 in
theorem prstmt2_any {n : Nat} (y : Sx n) (hy : SetOk y) (a : Option Addr) (cc B b q : Nat) (l : List UInt8) (w : World) (hp : Pr B b l w) (hB : B ≤ w.heap.size) (he : Env B w) (hr : RdK (KE n) (fun b => b < B) w a cc y.x.l)
    (hq : w.heap[q]? = some (.cells #[.pointer (some ⟨b, 0, none⟩)] 109 (0, 0))) (hqb : q ≠ b) (hlen : l.length + (setT y).length ≤ 140737488355328) :
    Calls Tryz.prog 74 #[y.val a cc, .pointer (some ⟨q, 0, none⟩)] w fun e w' => e = .returned (.tuple #[]) ∧ Put B b (l ++ setT y) w w' := by
  unfold SetOk at hy
  unfold setT at hlen ⊢
  obtain ⟨m, x⟩ := y
  dsimp only at hy hr hlen ⊢
  simp only [List.length_append] at hlen
  have hweq : weq.length = 3 := rfl
  rw [hweq, bsz] at hlen
  have HX := Lib.hid fun (l' : List UInt8) (w' : World) hp' (hB' : B ≤ w'.heap.size) he' hr' hl' => prexprX_any (prexpr_all n) x hy a cc B b l' w' hp' hB' he' hr' hl'
  have HQ := Lib.hid hq
  have HP := Lib.hid hp
  have HE := Lib.hid he
  have HR := Lib.hid hr
  have HN := Lib.hid hlen
  have hpl := hp.lt
  have hql := blk_lt hq
  clear hy he hr hlen hp hq hweq
  unfold Sx.val
  generalize prX x = ps at *
  obtain ⟨op, ⟨k, v, s, hv⟩, t, nm, ls⟩ := x
  unfold ExN.val at HX
  dsimp only at HX HR ⊢
  go_enter Tryz.func74, Tryz.ntmps74
  go_upto_region 1 with fail
  have hX := heap_alloc_new w (.cells #[.string m, .int .i64 op, .int .i64 k, .int .i64 v, .string s, .string t, .string nm, .slice a ls.length cc] 59)
  have HQ1 := Lib.hid (heap_keep_alloc HQ.out (.cells #[.string m, .int .i64 op, .int .i64 k, .int .i64 v, .string s, .string t, .string nm, .slice a ls.length cc] 59))
  have HU := Lib.hid ((Put.refl HP.out).below hB (below1 w (.cells #[.string m, .int .i64 op, .int .i64 k, .int .i64 v, .string s, .string t, .string nm, .slice a ls.length cc] 59)))
  generalize (w.alloc (.cells #[.string m, .int .i64 op, .int .i64 k, .int .i64 v, .string s, .string t, .string nm, .slice a ls.length cc] 59)) = W at hX HQ1 HU ⊢
  obtain ⟨x0, x1, x2, x3, x4, x5, x6, x7⟩ := cells8_of hX
  have q0 := ownCell HQ1.out
  have HXX := Lib.hid hX
  clear hX
  have HPP := Lib.hid (put2 B b l m ⟨#[32, 61, 32]⟩ W.heap.size W rfl HU.out.1 (Nat.le_trans hB HU.out.size) (by have := HN.out; have e : (⟨#[32, 61, 32]⟩ : ByteArray).size = 3 := rfl; rw [e]; omega))
  go_upto_region 2 with (go_at_call 69; refine HPP.out.mono ?_; rintro e w2 ⟨rfl, hput⟩)
  clear x0 x1 x2 x3 x4 x5 x6 x7 q0
  obtain ⟨x0, x1, x2, x3, x4, x5, x6, x7⟩ := cells8_of (hput.keeps HXX.out (by decide) (by omega))
  have q0 := ownCell (hput.keeps HQ1.out (by decide) hqb)
  have HV := Lib.hid (HU.out.trans hput)
  clear hput
  have HCC := Lib.hid (HX.out _ w2 HV.out.1 (Nat.le_trans hB HV.out.size) (HE.out.below HV.out.2.1) (HR.out.kept (KE_ok n) fun b' hb' _ => HV.out.2.1.block b' hb') (by have := HN.out; have e : (⟨#[32, 61, 32]⟩ : ByteArray).data.toList.length = 3 := rfl; simp only [List.length_append, e, bsz]; omega))
  go_wp2_with (go_at_call 75; refine HCC.out.mono ?_; rintro e w3 ⟨rfl, hput⟩)
  go_end0
  refine ⟨rfl, ?_⟩
  have h := HV.out.trans hput
  simp only [List.append_assoc] at h
  exact h

set_option maxHeartbeats 4000000 in
set_option maxRecDepth 100000 in
theorem putListR_any {n : Nat} (ls : List (List (Ar n))) (hy : ∀ y ∈ ls, RowOk y) (A : Option Addr) (c B b q : Nat) (l : List UInt8) (sep : ByteArray) (w : World) (hp : Pr B b l w) (hB : B ≤ w.heap.size) (he : Env B w) (hr : RdK (KR n) (fun b => b < B) w A c ls)
    (hq : w.heap[q]? = some (.cells #[.pointer (some ⟨b, 0, none⟩)] 109 (0, 0))) (hqb : q ≠ b) (hlen : l.length + (joinL sep.data.toList (ls.map rowT)).length ≤ 140737488355328) :
    Calls Tryz.prog 126 #[.pointer (some ⟨b, 0, none⟩), .slice A ls.length c, .string sep, .func (.func 71) #[] #[.pointer (some ⟨q, 0, none⟩)]] w fun e w' => e = .returned (.tuple #[]) ∧ Put B b (l ++ joinL sep.data.toList (ls.map rowT)) w w' := by
  have HY := Lib.hid hy
  have HE := Lib.hid he
  have HP := Lib.hid hp
  have HR := Lib.hid hr
  have HQ := Lib.hid hq
  have HL := Lib.hid hlen
  have hle : ls.length ≤ 9223372036854775807 := by have := hr.hdr.2; omega
  clear hy he hp hr hq hlen
  go_enter Tryz.func126, Tryz.ntmps126
  go_wp2_with fail
  go_loopw [12] (fun i wr => ∃ j : Nat, j ≤ ls.length ∧ i = .int .i64 j ∧ Put B b (l ++ joinL sep.data.toList ((ls.take j).map rowT)) w wr) (fun i _ => ls.length - (intOf i).toNat)
  case atStart => exact ⟨0, by omega, rfl, by simpa [joinL] using Put.refl HP.out⟩
  case round =>
    obtain ⟨j, hj, rfl, hput⟩ := hrel
    have HU := Lib.hid hput
    have hBr : B ≤ wr.heap.size := Nat.le_trans hB hput.size
    have hbl := hput.1.lt
    clear hput
    by_cases hlt : j < ls.length
    · have hrr := HR.out.kept (KR_ok n) (w' := wr) fun b' hb' _ => HU.out.2.1.block b' hb'
      obtain ⟨ad, a1, k1, rfl, p0, r1⟩ := hrr.row (j := j) hlt
      have hx : ls[j]? = some ls[j] := List.getElem?_eq_getElem hlt
      have hmem : ls[j] ∈ ls := List.getElem_mem hlt
      generalize ls[j] = y at p0 r1 hx hmem
      have HQ2 := Lib.hid (HU.out.keeps HQ.out (by decide) hqb)
      have hql := blk_lt HQ2.out
      have HE2 := Lib.hid (HE.out.below HU.out.2.1)
      have HY2 := Lib.hid (HY.out y hmem)
      have HR2 := Lib.hid r1
      have hj2 : joinL sep.data.toList ((ls.take (j + 1)).map rowT) = joinL sep.data.toList ((ls.take j).map rowT) ++ ((if j = 0 then [] else sep.data.toList) ++ rowT y) := by
        rw [List.take_add_one, hx, Option.toList_some, List.map_append, List.map_cons, List.map_nil, joinL_snoc]
        congr 2
        have : ((ls.take j).map rowT = []) = (j = 0) := by
          rw [List.map_eq_nil_iff, List.take_eq_nil_iff, eq_iff_iff]
          exact ⟨fun h => h.elim id (fun h => by rw [h] at hlt; cases hlt), Or.inl⟩
        simp only [this]
      have hl3 : (joinL sep.data.toList ((ls.take (j + 1)).map rowT)).length ≤ (joinL sep.data.toList (ls.map rowT)).length := by
        rw [List.map_take]; exact joinL_take _ _ _
      rw [hj2, List.length_append, List.length_append] at hl3
      have HJ := Lib.hid hj2
      generalize joinL sep.data.toList ((ls.take j).map rowT) = js at *
      have hl4 := HL.out
      generalize joinL sep.data.toList (ls.map rowT) = jall at *
      clear hrr r1 hj2 hx hmem
      have hc1 := fun (l' : List UInt8) (w' : World) hp' hB' he' hr' hq' hl' => prstmt1_any y HY2.out a1 k1 B b q l' w' hp' hB' he' hr' hq' hqb hl'
      have hpl : Hid (∀ (l' : List UInt8), l'.length ≤ l.length + (js.length + (if j = 0 then ([] : List UInt8) else sep.data.toList).length) → l'.length + (rowT y).length ≤ 140737488355328) := Lib.hid fun l' h => by omega
      generalize rowT y = ps at *
      clear HY2

      have HC := Lib.hid hc1
      clear hc1
      rcases Nat.eq_zero_or_pos j with h0 | hpos
      · have hd : decide ((0 : Int) < (j : Int)) = false := by simp; omega
        have hd2 : decide (0 < j) = false := by simp; omega
        simp only [if_pos h0, List.nil_append, List.length_nil, Nat.add_zero] at HJ hpl hl3
        have HCC := Lib.hid (HC.out (l ++ js) wr HU.out.1 hBr HE2.out HR2.out HQ2.out (hpl.out _ (by simp)))
        have H0 := Lib.hid h0
        clear h0 HC
        go_wp2_with (go_at_call 71; refine HCC.out.mono ?_; rintro e w2 ⟨rfl, hput⟩)
        go_roundw
        case rel => exact ⟨j + 1, by omega, by go_num, by rw [HJ.out, ← List.append_assoc]; exact HU.out.trans hput⟩
        case measure => simp [intOf]; omega
      · have hd : decide ((0 : Int) < (j : Int)) = true := by simp; omega
        have hd2 : decide (0 < j) = true := by simp; omega
        simp only [if_neg (show ¬ j = 0 by omega)] at HJ hpl hl3
        go_upto_region 5 with (go_at_call 69; refine (put1 B b (l ++ js) sep _ _ rfl HU.out.1 hBr (by rw [List.length_append]; rw [bsz] at hl3; omega)).mono ?_; rintro e w2 ⟨rfl, hput⟩; have HV := Lib.hid hput; clear hput)
        have hB3 : B ≤ w2.heap.size := Nat.le_trans hBr HV.out.size
        have HQ3 := Lib.hid (HV.out.keeps HQ2.out (by decide) hqb)
        have HE3 := Lib.hid (HE2.out.below HV.out.2.1)
        have HR3 := Lib.hid (HR2.out.kept (KE_ok _) (w' := w2) fun b' hb' _ => HV.out.2.1.block b' hb')
        have HCC := Lib.hid (HC.out (l ++ js ++ sep.data.toList) w2 HV.out.1 hB3 HE3.out HR3.out HQ3.out (hpl.out _ (by simp <;> omega)))
        clear HC
        go_wp2_with (go_at_call 71; refine HCC.out.mono ?_; rintro e w3 ⟨rfl, hput⟩)
        go_roundw
        case rel => exact ⟨j + 1, by omega, by go_num, by rw [HJ.out]; have h := HU.out.trans (HV.out.trans hput); simpa using h⟩
        case measure => simp [intOf]; omega
    · have HEnd : Hid (ls.take j = ls) := Lib.hid (List.take_of_length_le (by omega))
      go_wp2
      go_end0
      exact ⟨rfl, by have h := HU.out; rwa [HEnd.out] at h⟩

set_option maxHeartbeats 2000000 in
set_option maxRecDepth 100000 in
theorem putPartR_any {n : Nat} (ls : List (List (Ar n))) (hy : ∀ y ∈ ls, RowOk y) (A : Option Addr) (c B b q : Nat) (l : List UInt8) (ws : ByteArray) (w : World) (hp : Pr B b l w) (hB : B ≤ w.heap.size) (he : Env B w) (hr : RdK (KR n) (fun b => b < B) w A c ls)
    (hq : w.heap[q]? = some (.cells #[.pointer (some ⟨b, 0, none⟩)] 109 (0, 0))) (hqb : q ≠ b) (hlen : l.length + (partL ws.data.toList rowT ls).length ≤ 140737488355328) :
    Calls Tryz.prog 70 #[.pointer (some ⟨b, 0, none⟩), .string ws, .slice A ls.length c, .func (.func 71) #[] #[.pointer (some ⟨q, 0, none⟩)]] w fun e w' => e = .returned (.tuple #[]) ∧ Put B b (l ++ partL ws.data.toList rowT ls) w w' := by
  rcases Nat.eq_zero_or_pos ls.length with h0 | h0
  · have hd : decide ((0 : Int) < (ls.length : Int)) = false := by rw [h0]; rfl
    have hd2 : decide (0 < ls.length) = false := by rw [h0]; rfl
    have HP := Lib.hid (part_off (ws := ws.data.toList) (f := rowT) h0)
    have HR := Lib.hid (Put.refl hp)
    clear hy he hr hq hlen h0 hp
    go_enter Tryz.func70, Tryz.ntmps70
    go_wp2_with fail
    go_end0
    exact ⟨rfl, by rw [HP.out, List.append_nil]; exact HR.out⟩
  · have hpt := part_on (ws := ws.data.toList) (f := rowT) h0
    rw [hpt] at hlen
    have hd : decide ((0 : Int) < (ls.length : Int)) = true := by simp; omega
    have hd2 : decide (0 < ls.length) = true := by simp; omega
    have HPT := Lib.hid hpt
    simp only [List.length_append] at hlen
    have HPW := Lib.hid (put1 B b l ws w.heap.size w rfl hp hB (by rw [bsz] at hlen; omega))
    have HC := Lib.hid fun (w' : World) (hput : Put B b (l ++ ws.data.toList) w w') => putListR_any ls hy A c B b q (l ++ ws.data.toList) ⟨#[44, 32]⟩ w' hput.1 (Nat.le_trans hB hput.size) (he.below hput.2.1) (hr.kept (KR_ok n) fun b' hb' _ => hput.2.1.block b' hb') (hput.keeps hq (by decide) hqb) hqb (by rw [List.length_append]; exact Nat.le_trans (Nat.le_of_eq (Nat.add_assoc _ _ _)) hlen)
    clear hy he hr hq hlen h0 hp hpt
    go_enter Tryz.func70, Tryz.ntmps70
    go_upto_region 2 with (go_at_call 69; refine HPW.out.mono ?_; rintro e w2 ⟨rfl, hput⟩)
    have HV := Lib.hid hput
    clear hput
    go_wp2_with (go_at_call 126; refine (HC.out _ HV.out).mono ?_; rintro e w3 ⟨rfl, hput⟩)
    go_end0
    refine ⟨rfl, ?_⟩
    have h := HV.out.trans hput
    rw [HPT.out, ← List.append_assoc]
    exact h

set_option maxHeartbeats 4000000 in
set_option maxRecDepth 100000 in
theorem putListS_any {n : Nat} (ls : List (Sx n)) (hy : ∀ y ∈ ls, SetOk y) (A : Option Addr) (c B b q : Nat) (l : List UInt8) (sep : ByteArray) (w : World) (hp : Pr B b l w) (hB : B ≤ w.heap.size) (he : Env B w) (hr : RdK (KS n) (fun b => b < B) w A c ls)
    (hq : w.heap[q]? = some (.cells #[.pointer (some ⟨b, 0, none⟩)] 109 (0, 0))) (hqb : q ≠ b) (hlen : l.length + (joinL sep.data.toList (ls.map setT)).length ≤ 140737488355328) :
    Calls Tryz.prog 129 #[.pointer (some ⟨b, 0, none⟩), .slice A ls.length c, .string sep, .func (.func 74) #[] #[.pointer (some ⟨q, 0, none⟩)]] w fun e w' => e = .returned (.tuple #[]) ∧ Put B b (l ++ joinL sep.data.toList (ls.map setT)) w w' := by
  have HY := Lib.hid hy
  have HE := Lib.hid he
  have HP := Lib.hid hp
  have HR := Lib.hid hr
  have HQ := Lib.hid hq
  have HL := Lib.hid hlen
  have hle : ls.length ≤ 9223372036854775807 := by have := hr.hdr.2; omega
  clear hy he hp hr hq hlen
  go_enter Tryz.func129, Tryz.ntmps129
  go_wp2_with fail
  go_loopw [12] (fun i wr => ∃ j : Nat, j ≤ ls.length ∧ i = .int .i64 j ∧ Put B b (l ++ joinL sep.data.toList ((ls.take j).map setT)) w wr) (fun i _ => ls.length - (intOf i).toNat)
  case atStart => exact ⟨0, by omega, rfl, by simpa [joinL] using Put.refl HP.out⟩
  case round =>
    obtain ⟨j, hj, rfl, hput⟩ := hrel
    have HU := Lib.hid hput
    have hBr : B ≤ wr.heap.size := Nat.le_trans hB hput.size
    have hbl := hput.1.lt
    clear hput
    by_cases hlt : j < ls.length
    · have hrr := HR.out.kept (KS_ok n) (w' := wr) fun b' hb' _ => HU.out.2.1.block b' hb'
      obtain ⟨ad, a1, k1, rfl, ⟨p0, p1, p2, p3, p4, p5, p6, p7⟩, r1⟩ := hrr.set (j := j) hlt
      have hx : ls[j]? = some ls[j] := List.getElem?_eq_getElem hlt
      have hmem : ls[j] ∈ ls := List.getElem_mem hlt
      generalize ls[j] = y at p0 p1 p2 p3 p4 p5 p6 p7 r1 hx hmem
      have HQ2 := Lib.hid (HU.out.keeps HQ.out (by decide) hqb)
      have hql := blk_lt HQ2.out
      have HE2 := Lib.hid (HE.out.below HU.out.2.1)
      have HY2 := Lib.hid (HY.out y hmem)
      have HR2 := Lib.hid r1
      have hj2 : joinL sep.data.toList ((ls.take (j + 1)).map setT) = joinL sep.data.toList ((ls.take j).map setT) ++ ((if j = 0 then [] else sep.data.toList) ++ setT y) := by
        rw [List.take_add_one, hx, Option.toList_some, List.map_append, List.map_cons, List.map_nil, joinL_snoc]
        congr 2
        have : ((ls.take j).map setT = []) = (j = 0) := by
          rw [List.map_eq_nil_iff, List.take_eq_nil_iff, eq_iff_iff]
          exact ⟨fun h => h.elim id (fun h => by rw [h] at hlt; cases hlt), Or.inl⟩
        simp only [this]
      have hl3 : (joinL sep.data.toList ((ls.take (j + 1)).map setT)).length ≤ (joinL sep.data.toList (ls.map setT)).length := by
        rw [List.map_take]; exact joinL_take _ _ _
      rw [hj2, List.length_append, List.length_append] at hl3
      have HJ := Lib.hid hj2
      generalize joinL sep.data.toList ((ls.take j).map setT) = js at *
      have hl4 := HL.out
      generalize joinL sep.data.toList (ls.map setT) = jall at *
      clear hrr r1 hj2 hx hmem
      have hc1 := fun (l' : List UInt8) (w' : World) hp' hB' he' hr' hq' hl' => prstmt2_any y HY2.out a1 k1 B b q l' w' hp' hB' he' hr' hq' hqb hl'
      have hpl : Hid (∀ (l' : List UInt8), l'.length ≤ l.length + (js.length + (if j = 0 then ([] : List UInt8) else sep.data.toList).length) → l'.length + (setT y).length ≤ 140737488355328) := Lib.hid fun l' h => by omega
      generalize setT y = ps at *
      clear HY2
      obtain ⟨mm, ⟨op, ⟨k, m, s, hv⟩, t, nm, lx⟩⟩ := y
      unfold Sx.val at hc1
      dsimp only at p0 p1 p2 p3 p4 p5 p6 p7 hc1 HR2
      have HC := Lib.hid hc1
      clear hc1
      rcases Nat.eq_zero_or_pos j with h0 | hpos
      · have hd : decide ((0 : Int) < (j : Int)) = false := by simp; omega
        have hd2 : decide (0 < j) = false := by simp; omega
        simp only [if_pos h0, List.nil_append, List.length_nil, Nat.add_zero] at HJ hpl hl3
        have HCC := Lib.hid fun (o : Obj) => HC.out (l ++ js) (wr.alloc o) (HU.out.1.alloc o) (by simp; omega) (HE2.out.step hBr (below1 _ o)) (HR2.out.below (KE_ok _) (below1 _ o)) (heap_keep_alloc HQ2.out o) (hpl.out _ (by simp))
        have H0 := Lib.hid h0
        clear h0 HC
        go_wp2_with (go_at_call 74; refine (HCC.out _).mono ?_; rintro e w2 ⟨rfl, hput⟩)
        go_roundw
        case rel => exact ⟨j + 1, by omega, by go_num, by rw [HJ.out, ← List.append_assoc]; exact HU.out.trans (Put.ahead hBr (below1 _ _) hput)⟩
        case measure => simp [intOf]; omega
      · have hd : decide ((0 : Int) < (j : Int)) = true := by simp; omega
        have hd2 : decide (0 < j) = true := by simp; omega
        simp only [if_neg (show ¬ j = 0 by omega)] at HJ hpl hl3
        go_upto_region 5 with (go_at_call 69; refine (put1 B b (l ++ js) sep _ _ (by simp) (HU.out.1.alloc _) (by simp; omega) (by rw [List.length_append]; rw [bsz] at hl3; omega)).mono ?_; rintro e w2 ⟨rfl, hput⟩; obtain ⟨x0, x1, x2, x3, x4, x5, x6, x7⟩ := cells8_of (hput.keeps (heap_alloc_new wr _) (by decide) (by omega)); have HV := Lib.hid (Put.ahead hBr (below1 _ _) hput); clear hput)
        have hB3 : B ≤ w2.heap.size := Nat.le_trans hBr HV.out.size
        have HQ3 := Lib.hid (HV.out.keeps HQ2.out (by decide) hqb)
        have HE3 := Lib.hid (HE2.out.below HV.out.2.1)
        have HR3 := Lib.hid (HR2.out.kept (KE_ok _) (w' := w2) fun b' hb' _ => HV.out.2.1.block b' hb')
        have HCC := Lib.hid (HC.out (l ++ js ++ sep.data.toList) w2 HV.out.1 hB3 HE3.out HR3.out HQ3.out (hpl.out _ (by simp <;> omega)))
        clear HC
        go_wp2_with (go_at_call 74; refine HCC.out.mono ?_; rintro e w3 ⟨rfl, hput⟩)
        go_roundw
        case rel => exact ⟨j + 1, by omega, by go_num, by rw [HJ.out]; have h := HU.out.trans (HV.out.trans hput); simpa using h⟩
        case measure => simp [intOf]; omega
    · have HEnd : Hid (ls.take j = ls) := Lib.hid (List.take_of_length_le (by omega))
      go_wp2
      go_end0
      exact ⟨rfl, by have h := HU.out; rwa [HEnd.out] at h⟩

set_option maxHeartbeats 2000000 in
set_option maxRecDepth 100000 in
theorem putPartS_any {n : Nat} (ls : List (Sx n)) (hy : ∀ y ∈ ls, SetOk y) (A : Option Addr) (c B b q : Nat) (l : List UInt8) (ws : ByteArray) (w : World) (hp : Pr B b l w) (hB : B ≤ w.heap.size) (he : Env B w) (hr : RdK (KS n) (fun b => b < B) w A c ls)
    (hq : w.heap[q]? = some (.cells #[.pointer (some ⟨b, 0, none⟩)] 109 (0, 0))) (hqb : q ≠ b) (hlen : l.length + (partL ws.data.toList setT ls).length ≤ 140737488355328) :
    Calls Tryz.prog 73 #[.pointer (some ⟨b, 0, none⟩), .string ws, .slice A ls.length c, .func (.func 74) #[] #[.pointer (some ⟨q, 0, none⟩)]] w fun e w' => e = .returned (.tuple #[]) ∧ Put B b (l ++ partL ws.data.toList setT ls) w w' := by
  rcases Nat.eq_zero_or_pos ls.length with h0 | h0
  · have hd : decide ((0 : Int) < (ls.length : Int)) = false := by rw [h0]; rfl
    have hd2 : decide (0 < ls.length) = false := by rw [h0]; rfl
    have HP := Lib.hid (part_off (ws := ws.data.toList) (f := setT) h0)
    have HR := Lib.hid (Put.refl hp)
    clear hy he hr hq hlen h0 hp
    go_enter Tryz.func73, Tryz.ntmps73
    go_wp2_with fail
    go_end0
    exact ⟨rfl, by rw [HP.out, List.append_nil]; exact HR.out⟩
  · have hpt := part_on (ws := ws.data.toList) (f := setT) h0
    rw [hpt] at hlen
    have hd : decide ((0 : Int) < (ls.length : Int)) = true := by simp; omega
    have hd2 : decide (0 < ls.length) = true := by simp; omega
    have HPT := Lib.hid hpt
    simp only [List.length_append] at hlen
    have HPW := Lib.hid (put1 B b l ws w.heap.size w rfl hp hB (by rw [bsz] at hlen; omega))
    have HC := Lib.hid fun (w' : World) (hput : Put B b (l ++ ws.data.toList) w w') => putListS_any ls hy A c B b q (l ++ ws.data.toList) ⟨#[44, 32]⟩ w' hput.1 (Nat.le_trans hB hput.size) (he.below hput.2.1) (hr.kept (KS_ok n) fun b' hb' _ => hput.2.1.block b' hb') (hput.keeps hq (by decide) hqb) hqb (by rw [List.length_append]; exact Nat.le_trans (Nat.le_of_eq (Nat.add_assoc _ _ _)) hlen)
    clear hy he hr hq hlen h0 hp hpt
    go_enter Tryz.func73, Tryz.ntmps73
    go_upto_region 2 with (go_at_call 69; refine HPW.out.mono ?_; rintro e w2 ⟨rfl, hput⟩)
    have HV := Lib.hid hput
    clear hput
    go_wp2_with (go_at_call 129; refine (HC.out _ HV.out).mono ?_; rintro e w3 ⟨rfl, hput⟩)
    go_end0
    refine ⟨rfl, ?_⟩
    have h := HV.out.trans hput
    rw [HPT.out, ← List.append_assoc]
    exact h

end Go.Proofs.YtnbgnofbeklmkaaGreatDoor
