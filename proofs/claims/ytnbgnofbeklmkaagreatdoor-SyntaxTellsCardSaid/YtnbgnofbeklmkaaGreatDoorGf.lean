/- How a statement is printed by the program: the walks of table, query, stmt and Print. Conditions: a statement that is read in memory; the tables that strconv and strings read, as they are laid; lengths that every machine keeps. -/
import Derived.Test.YtnbgnofbeklmkaaGreatDoorGe

namespace Go.Proofs.YtnbgnofbeklmkaaGreatDoor
open Go.RowKit
set_option linter.unusedSimpArgs false
set_option linter.unusedVariables false

set_option maxHeartbeats 1000000 in
theorem put7 (B b : Nat) (l : List UInt8) (s t u v x y z : ByteArray) (g : Nat) (w : World) (hg : g = w.heap.size) (hp : Pr B b l w) (hB : B ≤ w.heap.size) (hlen : l.length + (s.size + (t.size + (u.size + (v.size + (x.size + (y.size + z.size)))))) ≤ 140737488355328) :
    Calls Tryz.prog 69 #[.pointer (some ⟨b, 0, none⟩), .slice (some ⟨g, 0, none⟩) 7 7] (w.alloc (.cells #[.string s, .string t, .string u, .string v, .string x, .string y, .string z] 9)) fun e w' => e = .returned (.tuple #[]) ∧ Put B b (l ++ (s.data.toList ++ (t.data.toList ++ (u.data.toList ++ (v.data.toList ++ (x.data.toList ++ (y.data.toList ++ z.data.toList))))))) w w' := by
  have h := putL_any B b l [s, t, u, v, x, y, z] g w hg hp hB (by simpa [cat] using hlen) (by simp)
  simpa [cat] using h
theorem heap_three (w : World) (o p q : Obj) : (((w.alloc o).alloc p).alloc q).heap[w.heap.size + 2]? = some q := by
  have := heap_alloc_new ((w.alloc o).alloc p) q
  rw [World.size_alloc, World.size_alloc] at this
  exact this
/-- Lengths of prints within a whole one. -/
theorem len_in {a c : List UInt8} {k M : Nat} (h : a.length + c.length ≤ M) (h2 : k ≤ c.length) : a.length + k ≤ M := by omega

set_option maxHeartbeats 8000000 in
set_option maxRecDepth 100000 in
theorem prtable_any {n : Nat} (x : St n) (h : Hs) (hC : ∀ y ∈ x.cols, colB y = true) (h0 : 0 < x.cols.length) (B b : Nat) (l : List UInt8) (w : World) (hp : Pr B b l w) (hB : B ≤ w.heap.size) (he : Env B w) (hr : RdSt (fun b => b < B) w x h) (hlen : l.length + (wCT ++ (x.tb.data.toList ++ (wop ++ (colsT x.cols ++ (wpk ++ (x.key.data.toList ++ wcc)))))).length ≤ 140737488355328) :
    Calls Tryz.prog 68 #[.pointer (some ⟨b, 0, none⟩), x.val h] w fun e w' => e = .returned (.tuple #[]) ∧ Put B b (l ++ (wCT ++ (x.tb.data.toList ++ (wop ++ (colsT x.cols ++ (wpk ++ (x.key.data.toList ++ wcc))))))) w w' := by
  rw [← cols_join h0] at hlen ⊢
  obtain ⟨kind, tb, cols, key, ix, rows, sets, items, jn, on, wh, gr, ord, lim⟩ := x
  obtain ⟨⟨aC, cC⟩, ⟨aR, cR⟩, ⟨aS, cS⟩, ⟨aI, cI⟩, ⟨aO, cO⟩, ⟨aW, cW⟩, ⟨aG, cG⟩, ⟨aD, cD⟩⟩ := h
  have HC : Hid (∀ (l' : List UInt8) (w' : World), Pr B b l' w' → B ≤ w'.heap.size → Env B w' → RdK KC (fun b => b < B) w' aC cC cols → ∀ q, w'.heap[q]? = some (.cells #[.pointer (some ⟨b, 0, none⟩)] 109 (0, 0)) → q ≠ b → ∀ g, w'.heap[g]? = some kindO → g ≠ b → l'.length + (joinL wcm (cols.map colT)).length ≤ 140737488355328 →
      Calls Tryz.prog 123 #[.pointer (some ⟨b, 0, none⟩), .slice aC cols.length cC, .string ⟨#[44, 32]⟩, .func (.func 124) #[] #[.pointer (some ⟨q, 0, none⟩), .pointer (some ⟨g, 0, none⟩)]] w' fun e w'' => e = .returned (.tuple #[]) ∧ Put B b (l' ++ joinL wcm (cols.map colT)) w' w'') := Lib.hid fun l' w' hp' hB' he' hr' q hq' hqb' g hk' hgb' hl' => putListC_any cols hC aC cC B b q g l' ⟨#[44, 32]⟩ w' hp' hB' he' hr' hq' hqb' hk' hgb' hl'
  have HR := Lib.hid hr.C
  have HE := Lib.hid he
  have HN := Lib.hid hlen
  clear hC h0 hr he hlen
  unfold St.val St.cs
  dsimp only at HC HR HN ⊢
  generalize joinL wcm (cols.map colT) = J at HC HN ⊢
  go_enter Tryz.func68, Tryz.ntmps68
  go_upto_region 2 with fail
  have hQ := heap_keep_alloc (heap_keep_alloc (heap_alloc_new w (.cells #[.pointer (some ⟨b, 0, none⟩)] 109)) (.cells #[.int .i64 kind, .string tb, .slice aC cols.length cC, .string key, .string ix, .slice aR rows.length cR, .slice aS sets.length cS, .slice aI items.length cI, .string jn, .slice aO on.length cO, .slice aW wh.length cW, .slice aG gr.length cG, .slice aD ord.length cD, .int .i64 lim] 28)) (.cells #[.string ⟨#[]⟩, .string ⟨#[73, 78, 84]⟩, .string ⟨#[66, 79, 79, 76]⟩, .string ⟨#[84, 69, 88, 84]⟩] 158)
  have hX := heap_keep_alloc (heap_two w (.cells #[.pointer (some ⟨b, 0, none⟩)] 109) (.cells #[.int .i64 kind, .string tb, .slice aC cols.length cC, .string key, .string ix, .slice aR rows.length cR, .slice aS sets.length cS, .slice aI items.length cI, .string jn, .slice aO on.length cO, .slice aW wh.length cW, .slice aG gr.length cG, .slice aD ord.length cD, .int .i64 lim] 28)) (.cells #[.string ⟨#[]⟩, .string ⟨#[73, 78, 84]⟩, .string ⟨#[66, 79, 79, 76]⟩, .string ⟨#[84, 69, 88, 84]⟩] 158)
  have hK := heap_three w (.cells #[.pointer (some ⟨b, 0, none⟩)] 109) (.cells #[.int .i64 kind, .string tb, .slice aC cols.length cC, .string key, .string ix, .slice aR rows.length cR, .slice aS sets.length cS, .slice aI items.length cI, .string jn, .slice aO on.length cO, .slice aW wh.length cW, .slice aG gr.length cG, .slice aD ord.length cD, .int .i64 lim] 28) (.cells #[.string ⟨#[]⟩, .string ⟨#[73, 78, 84]⟩, .string ⟨#[66, 79, 79, 76]⟩, .string ⟨#[84, 69, 88, 84]⟩] 158)
  have hU := (Put.refl hp).below hB (below3 w (.cells #[.pointer (some ⟨b, 0, none⟩)] 109) (.cells #[.int .i64 kind, .string tb, .slice aC cols.length cC, .string key, .string ix, .slice aR rows.length cR, .slice aS sets.length cS, .slice aI items.length cI, .string jn, .slice aO on.length cO, .slice aW wh.length cW, .slice aG gr.length cG, .slice aD ord.length cD, .int .i64 lim] 28) (.cells #[.string ⟨#[]⟩, .string ⟨#[73, 78, 84]⟩, .string ⟨#[66, 79, 79, 76]⟩, .string ⟨#[84, 69, 88, 84]⟩] 158))
  have hql := hp.lt
  generalize (((w.alloc (.cells #[.pointer (some ⟨b, 0, none⟩)] 109)).alloc (.cells #[.int .i64 kind, .string tb, .slice aC cols.length cC, .string key, .string ix, .slice aR rows.length cR, .slice aS sets.length cS, .slice aI items.length cI, .string jn, .slice aO on.length cO, .slice aW wh.length cW, .slice aG gr.length cG, .slice aD ord.length cD, .int .i64 lim] 28)).alloc (.cells #[.string ⟨#[]⟩, .string ⟨#[73, 78, 84]⟩, .string ⟨#[66, 79, 79, 76]⟩, .string ⟨#[84, 69, 88, 84]⟩] 158)) = W at hQ hX hK hU ⊢
  have HQ := Lib.hid hQ
  have HX := Lib.hid hX
  have HU := Lib.hid hU
  have HK := Lib.hid hK
  have hBW : B ≤ W.heap.size := Nat.le_trans hB HU.out.size
  clear hQ hX hU hK hp
  obtain ⟨x0, x1, x2, x3, x4, x5, x6, x7, x8, x9, x10, x11, x12, x13⟩ := cells14 HX.out
  have q0 := ownCell HQ.out
  have z_CT : (⟨#[67, 82, 69, 65, 84, 69, 32, 84, 65, 66, 76, 69, 32]⟩ : ByteArray).size = wCT.length := rfl
  have z_op : (⟨#[32, 40]⟩ : ByteArray).size = wop.length := rfl
  have z_cc : (⟨#[41, 41]⟩ : ByteArray).size = wcc.length := rfl
  have z_pk : (⟨#[44, 32, 80, 82, 73, 77, 65, 82, 89, 32, 75, 69, 89, 32, 40]⟩ : ByteArray).size = wcm.length + wpk.length := rfl
  have HPP := Lib.hid (put3 B b l ⟨#[67, 82, 69, 65, 84, 69, 32, 84, 65, 66, 76, 69, 32]⟩ tb ⟨#[32, 40]⟩ W.heap.size W rfl HU.out.1 hBW (by rw [z_CT, z_op]; have := HN.out; simp only [List.length_append, bsz] at this; omega))
  go_upto_region 3 with (go_at_call 69; refine HPP.out.mono ?_; rintro e w2 ⟨rfl, hput⟩)
  replace HK := Lib.hid (hput.keeps HK.out (by decide) (by omega))
  have HU2 : Hid (Put B b (l ++ (wCT ++ (tb.data.toList ++ wop))) w w2) := Lib.hid (HU.out.trans hput)
  clear HU
  have HU := HU2
  clear HU2
  replace HQ := Lib.hid (hput.keeps HQ.out (by decide) (by omega))
  replace HX := Lib.hid (hput.keeps HX.out (by decide) (by omega))
  clear x0 x1 x2 x3 x4 x5 x6 x7 x8 x9 x10 x11 x12 x13 q0 hput hBW
  have hBW : B ≤ w2.heap.size := Nat.le_trans hB HU.out.size
  obtain ⟨x0, x1, x2, x3, x4, x5, x6, x7, x8, x9, x10, x11, x12, x13⟩ := cells14 HX.out
  have q0 := ownCell HQ.out
  have HPP := Lib.hid (HC.out (l ++ (wCT ++ (tb.data.toList ++ wop))) w2 HU.out.1 hBW (HE.out.below HU.out.2.1) (HR.out.kept KC_ok fun b' hb' _ => HU.out.2.1.block b' hb') w.heap.size HQ.out (by omega) (w.heap.size + 2) HK.out (by omega) (by have := HN.out; (try simp only [List.length_append, bsz] at this ⊢); omega))
  go_upto_region 4 with (go_at_call 123; refine HPP.out.mono ?_; rintro e w3 ⟨rfl, hput⟩)
  have HU2 : Hid (Put B b (l ++ (wCT ++ (tb.data.toList ++ wop)) ++ J) w w3) := Lib.hid (HU.out.trans hput)
  clear HU
  have HU := HU2
  clear HU2
  replace HQ := Lib.hid (hput.keeps HQ.out (by decide) (by omega))
  replace HX := Lib.hid (hput.keeps HX.out (by decide) (by omega))
  clear x0 x1 x2 x3 x4 x5 x6 x7 x8 x9 x10 x11 x12 x13 q0 hput hBW
  have hBW : B ≤ w3.heap.size := Nat.le_trans hB HU.out.size
  obtain ⟨x0, x1, x2, x3, x4, x5, x6, x7, x8, x9, x10, x11, x12, x13⟩ := cells14 HX.out
  have q0 := ownCell HQ.out
  have HPP := Lib.hid (put3 B b _ ⟨#[44, 32, 80, 82, 73, 77, 65, 82, 89, 32, 75, 69, 89, 32, 40]⟩ key ⟨#[41, 41]⟩ w3.heap.size w3 rfl HU.out.1 hBW (by rw [z_pk, z_cc]; have := HN.out; (try simp only [List.length_append, bsz] at this ⊢); omega))
  go_wp2_with (go_at_call 69; refine HPP.out.mono ?_; rintro e w4 ⟨rfl, hput⟩)
  go_end0
  refine ⟨rfl, ?_⟩
  have h : Put B b (l ++ (wCT ++ (tb.data.toList ++ wop)) ++ J ++ ((wcm ++ wpk) ++ (key.data.toList ++ wcc))) w w4 := HU.out.trans hput
  (try simp only [List.append_assoc] at h ⊢)
  exact h

theorem prexprs_w {n : Nat} (ls : List (Ar n)) (hy : ∀ y ∈ ls, okP n y = true) (A : Option Addr) (c B b : Nat) (l : List UInt8) (ws : ByteArray) (wl : List UInt8) (hw : ws.data.toList = wl) (w : World) (hp : Pr B b l w) (hB : B ≤ w.heap.size) (he : Env B w) (hr : RdK (KE n) (fun b => b < B) w A c ls) (hlen : l.length + (partL wl (prA n) ls).length ≤ 140737488355328) :
    Calls Tryz.prog 72 #[.pointer (some ⟨b, 0, none⟩), .string ws, .slice A ls.length c] w fun e w' => e = .returned (.tuple #[]) ∧ Put B b (l ++ partL wl (prA n) ls) w w' := by
  subst hw; exact prexprs_any ls hy A c B b l ws w hp hB he hr hlen
theorem kept_put {τ : Type} {K : Kd τ} (ok : K.Ok) {B b : Nat} {l : List UInt8} {w w' : World} {A : Option Addr} {c : Nat} {ls : List τ} (h : RdK K (fun b => b < B) w A c ls) (hu : Put B b l w w') : RdK K (fun b => b < B) w' A c ls := h.kept ok fun b' hb' _ => hu.2.1.block b' hb'

theorem putPartR_w {n : Nat} (ls : List (List (Ar n))) (hy : ∀ y ∈ ls, RowOk y) (A : Option Addr) (c B b q : Nat) (l : List UInt8) (ws : ByteArray) (wl : List UInt8) (hw : ws.data.toList = wl) (w : World) (hp : Pr B b l w) (hB : B ≤ w.heap.size) (he : Env B w) (hr : RdK (KR n) (fun b => b < B) w A c ls)
    (hq : w.heap[q]? = some (.cells #[.pointer (some ⟨b, 0, none⟩)] 109 (0, 0))) (hqb : q ≠ b) (hlen : l.length + (partL wl rowT ls).length ≤ 140737488355328) :
    Calls Tryz.prog 70 #[.pointer (some ⟨b, 0, none⟩), .string ws, .slice A ls.length c, .func (.func 71) #[] #[.pointer (some ⟨q, 0, none⟩)]] w fun e w' => e = .returned (.tuple #[]) ∧ Put B b (l ++ partL wl rowT ls) w w' := by
  subst hw; exact putPartR_any ls hy A c B b q l ws w hp hB he hr hq hqb hlen

theorem putPartS_w {n : Nat} (ls : List (Sx n)) (hy : ∀ y ∈ ls, SetOk y) (A : Option Addr) (c B b q : Nat) (l : List UInt8) (ws : ByteArray) (wl : List UInt8) (hw : ws.data.toList = wl) (w : World) (hp : Pr B b l w) (hB : B ≤ w.heap.size) (he : Env B w) (hr : RdK (KS n) (fun b => b < B) w A c ls)
    (hq : w.heap[q]? = some (.cells #[.pointer (some ⟨b, 0, none⟩)] 109 (0, 0))) (hqb : q ≠ b) (hlen : l.length + (partL wl setT ls).length ≤ 140737488355328) :
    Calls Tryz.prog 73 #[.pointer (some ⟨b, 0, none⟩), .string ws, .slice A ls.length c, .func (.func 74) #[] #[.pointer (some ⟨q, 0, none⟩)]] w fun e w' => e = .returned (.tuple #[]) ∧ Put B b (l ++ partL wl setT ls) w w' := by
  subst hw; exact putPartS_any ls hy A c B b q l ws w hp hB he hr hq hqb hlen

theorem putPartO_w (ls : List Od) (hy : ∀ y ∈ ls, OrdOk y) (A : Option Addr) (c B b q : Nat) (l : List UInt8) (ws : ByteArray) (wl : List UInt8) (hw : ws.data.toList = wl) (w : World) (hp : Pr B b l w) (hB : B ≤ w.heap.size) (he : Env B w) (hr : RdK KO (fun b => b < B) w A c ls)
    (hq : w.heap[q]? = some (.cells #[.pointer (some ⟨b, 0, none⟩)] 109 (0, 0))) (hqb : q ≠ b) (hlen : l.length + (partL wl ordT ls).length ≤ 140737488355328) :
    Calls Tryz.prog 135 #[.pointer (some ⟨b, 0, none⟩), .string ws, .slice A ls.length c, .func (.func 136) #[] #[.pointer (some ⟨q, 0, none⟩)]] w fun e w' => e = .returned (.tuple #[]) ∧ Put B b (l ++ partL wl ordT ls) w w' := by
  subst hw; exact putPartO_any ls hy A c B b q l ws w hp hB he hr hq hqb hlen

set_option maxHeartbeats 8000000 in
set_option maxRecDepth 100000 in
theorem prquery_any {n : Nat} (x : St n) (h : Hs) (hI : ∀ y ∈ x.items, okP n y = true) (hO : ∀ y ∈ x.on, okP n y = true) (hW : ∀ y ∈ x.wh, okP n y = true) (hG : ∀ y ∈ x.gr, okP n y = true) (hD : ∀ y ∈ x.ord, OrdOk y) (hlim : -1 ≤ x.lim ∧ x.lim ≤ 2147483648) (B b : Nat) (l : List UInt8) (w : World) (hp : Pr B b l w) (hB : B ≤ w.heap.size) (he : Env B w) (hr : RdSt (fun b => b < B) w x h) (hlen : l.length + (queryT x).length ≤ 140737488355328) :
    Calls Tryz.prog 76 #[.pointer (some ⟨b, 0, none⟩), x.val h] w fun e w' => e = .returned (.tuple #[]) ∧ Put B b (l ++ (queryT x)) w w' := by
  obtain ⟨kind, tb, cols, key, ix, rows, sets, items, jn, on, wh, gr, ord, lim⟩ := x
  obtain ⟨⟨aC, cC⟩, ⟨aR, cR⟩, ⟨aS, cS⟩, ⟨aI, cI⟩, ⟨aO, cO⟩, ⟨aW, cW⟩, ⟨aG, cG⟩, ⟨aD, cD⟩⟩ := h
  have HR := Lib.hid hr
  have HE := Lib.hid he
  have HN := Lib.hid hlen
  clear hr he hlen
  unfold queryT at HN ⊢
  unfold St.val St.cs
  dsimp only at hI hO hW hG hD hlim HN ⊢
  have HI := Lib.hid hI
  have HO := Lib.hid hO
  have HW := Lib.hid hW
  have HG := Lib.hid hG
  have HD := Lib.hid hD
  clear hI hO hW hG hD
  go_enter Tryz.func76, Tryz.ntmps76
  go_upto_region 1 with fail
  have hQ := heap_keep_alloc (heap_alloc_new w (.cells #[.pointer (some ⟨b, 0, none⟩)] 109)) (.cells #[.int .i64 kind, .string tb, .slice aC cols.length cC, .string key, .string ix, .slice aR rows.length cR, .slice aS sets.length cS, .slice aI items.length cI, .string jn, .slice aO on.length cO, .slice aW wh.length cW, .slice aG gr.length cG, .slice aD ord.length cD, .int .i64 lim] 28)
  have hX := heap_two w (.cells #[.pointer (some ⟨b, 0, none⟩)] 109) (.cells #[.int .i64 kind, .string tb, .slice aC cols.length cC, .string key, .string ix, .slice aR rows.length cR, .slice aS sets.length cS, .slice aI items.length cI, .string jn, .slice aO on.length cO, .slice aW wh.length cW, .slice aG gr.length cG, .slice aD ord.length cD, .int .i64 lim] 28)
  have hU := (Put.refl hp).below hB (below2 w (.cells #[.pointer (some ⟨b, 0, none⟩)] 109) (.cells #[.int .i64 kind, .string tb, .slice aC cols.length cC, .string key, .string ix, .slice aR rows.length cR, .slice aS sets.length cS, .slice aI items.length cI, .string jn, .slice aO on.length cO, .slice aW wh.length cW, .slice aG gr.length cG, .slice aD ord.length cD, .int .i64 lim] 28))
  have hql := hp.lt
  generalize ((w.alloc (.cells #[.pointer (some ⟨b, 0, none⟩)] 109)).alloc (.cells #[.int .i64 kind, .string tb, .slice aC cols.length cC, .string key, .string ix, .slice aR rows.length cR, .slice aS sets.length cS, .slice aI items.length cI, .string jn, .slice aO on.length cO, .slice aW wh.length cW, .slice aG gr.length cG, .slice aD ord.length cD, .int .i64 lim] 28)) = W at hQ hX hU ⊢
  have HQ := Lib.hid hQ
  have HX := Lib.hid hX
  have HU := Lib.hid hU

  have hBW : B ≤ W.heap.size := Nat.le_trans hB HU.out.size
  clear hQ hX hU hp
  obtain ⟨x0, x1, x2, x3, x4, x5, x6, x7, x8, x9, x10, x11, x12, x13⟩ := cells14 HX.out
  have q0 := ownCell HQ.out
  have z_fr : (⟨#[32, 70, 82, 79, 77, 32]⟩ : ByteArray).size = wfr.length := rfl
  have z_jo : (⟨#[32, 74, 79, 73, 78, 32]⟩ : ByteArray).size = wjo.length := rfl
  have z_li : (⟨#[32, 76, 73, 77, 73, 84, 32]⟩ : ByteArray).size = wli.length := rfl
  have HPP := Lib.hid (prexprs_w items HI.out aI cI B b (l) ⟨#[83, 69, 76, 69, 67, 84, 32]⟩ wSE rfl W HU.out.1 hBW (HE.out.below HU.out.2.1) (kept_put (KE_ok n) HR.out.I HU.out) (by have := HN.out; (try simp only [List.length_append, bsz] at this ⊢); omega))
  go_upto_region 2 with (go_at_call 72; refine HPP.out.mono ?_; rintro e w2 ⟨rfl, hput⟩)
  have HU2 : Hid (Put B b (l ++ partL wSE (prA n) items) w w2) := Lib.hid (HU.out.trans hput)
  clear HU
  have HU := HU2
  clear HU2
  replace HQ := Lib.hid (hput.keeps HQ.out (by decide) (by omega))
  replace HX := Lib.hid (hput.keeps HX.out (by decide) (by omega))
  clear x0 x1 x2 x3 x4 x5 x6 x7 x8 x9 x10 x11 x12 x13 q0 hput hBW
  have hBW : B ≤ w2.heap.size := Nat.le_trans hB HU.out.size
  obtain ⟨x0, x1, x2, x3, x4, x5, x6, x7, x8, x9, x10, x11, x12, x13⟩ := cells14 HX.out
  have q0 := ownCell HQ.out
  clear HPP
  have HPP := Lib.hid (put2 B b (l ++ partL wSE (prA n) items) ⟨#[32, 70, 82, 79, 77, 32]⟩ tb w2.heap.size w2 rfl HU.out.1 hBW (by simp only [z_fr]; have := HN.out; (try simp only [List.length_append, bsz] at this ⊢); omega))
  go_upto_region 3 with (go_at_call 69; refine HPP.out.mono ?_; rintro e w3 ⟨rfl, hput⟩)
  have HU2 : Hid (Put B b (l ++ partL wSE (prA n) items ++ (wfr ++ tb.data.toList)) w w3) := Lib.hid (HU.out.trans hput)
  clear HU
  have HU := HU2
  clear HU2
  replace HQ := Lib.hid (hput.keeps HQ.out (by decide) (by omega))
  replace HX := Lib.hid (hput.keeps HX.out (by decide) (by omega))
  clear x0 x1 x2 x3 x4 x5 x6 x7 x8 x9 x10 x11 x12 x13 q0 hput hBW
  have hBW : B ≤ w3.heap.size := Nat.le_trans hB HU.out.size
  obtain ⟨x0, x1, x2, x3, x4, x5, x6, x7, x8, x9, x10, x11, x12, x13⟩ := cells14 HX.out
  have q0 := ownCell HQ.out
  clear HPP
  go_upto_if 15 with fail
  go_cut [20] (fun s wd => Put B b (l ++ partL wSE (prA n) items ++ (wfr ++ tb.data.toList) ++ joinT jn) w wd ∧ wd.heap[w.heap.size]? = some (.cells #[.pointer (some ⟨b, 0, none⟩)] 109 (0, 0)) ∧ wd.heap[w.heap.size + 1]? = some (.cells #[.int .i64 kind, .string tb, .slice aC cols.length cC, .string key, .string ix, .slice aR rows.length cR, .slice aS sets.length cS, .slice aI items.length cI, .string jn, .slice aO on.length cO, .slice aW wh.length cW, .slice aG gr.length cG, .slice aD ord.length cD, .int .i64 lim] 28 (0, 0)))
  case first =>
    obtain ⟨E, hE⟩ : ∃ E : Bool, E = !jn.toList.isEmpty := ⟨_, rfl⟩
    have hem : emp jn = !E := by rw [hE]; unfold emp; simp
    rw [← hE]
    clear hE
    cases E
    · have hjt : joinT jn = [] := by unfold joinT; rw [hem]; rfl
      have HJ := Lib.hid hjt
      clear hem hjt
      go_wp2_with fail
      go_meet
      refine ⟨?_, HQ.out, HX.out⟩
      rw [HJ.out, List.append_nil]
      exact HU.out
    · have hjt : joinT jn = wjo ++ jn.data.toList := by unfold joinT; rw [hem]; rfl
      rw [hjt] at HN
      have HJ := Lib.hid hjt
      clear hem hjt
      have HPP := Lib.hid (put2 B b (l ++ partL wSE (prA n) items ++ (wfr ++ tb.data.toList)) ⟨#[32, 74, 79, 73, 78, 32]⟩ jn w3.heap.size w3 rfl HU.out.1 hBW (by simp only [z_jo]; have := HN.out; (try simp only [List.length_append, bsz] at this ⊢); omega))
      go_wp2_with (go_at_call 69; refine HPP.out.mono ?_; rintro e w4 ⟨rfl, hput⟩)
      go_meet
      refine ⟨?_, hput.keeps HQ.out (by decide) (by omega), hput.keeps HX.out (by decide) (by omega)⟩
      rw [HJ.out]
      exact HU.out.trans hput
  case rest =>
  obtain ⟨hput, hQ, hX⟩ := hcut
  clear x0 x1 x2 x3 x4 x5 x6 x7 x8 x9 x10 x11 x12 x13 q0 hBW HU HQ HX
  have HU := Lib.hid hput
  have HQ := Lib.hid hQ
  have HX := Lib.hid hX
  have hBW : B ≤ wc.heap.size := Nat.le_trans hB hput.size
  obtain ⟨x0, x1, x2, x3, x4, x5, x6, x7, x8, x9, x10, x11, x12, x13⟩ := cells14 hX
  have q0 := ownCell hQ
  clear hput hQ hX

  have HPP := Lib.hid (prexprs_w on HO.out aO cO B b (l ++ partL wSE (prA n) items ++ (wfr ++ tb.data.toList) ++ joinT jn) ⟨#[32, 79, 78, 32]⟩ won rfl wc HU.out.1 hBW (HE.out.below HU.out.2.1) (kept_put (KE_ok n) HR.out.O HU.out) (by have := HN.out; (try simp only [List.length_append, bsz] at this ⊢); omega))
  go_upto_region 6 with (go_at_call 72; refine HPP.out.mono ?_; rintro e w5 ⟨rfl, hput⟩)
  have HU2 : Hid (Put B b (l ++ partL wSE (prA n) items ++ (wfr ++ tb.data.toList) ++ joinT jn ++ partL won (prA n) on) w w5) := Lib.hid (HU.out.trans hput)
  clear HU
  have HU := HU2
  clear HU2
  replace HQ := Lib.hid (hput.keeps HQ.out (by decide) (by omega))
  replace HX := Lib.hid (hput.keeps HX.out (by decide) (by omega))
  clear x0 x1 x2 x3 x4 x5 x6 x7 x8 x9 x10 x11 x12 x13 q0 hput hBW
  have hBW : B ≤ w5.heap.size := Nat.le_trans hB HU.out.size
  obtain ⟨x0, x1, x2, x3, x4, x5, x6, x7, x8, x9, x10, x11, x12, x13⟩ := cells14 HX.out
  have q0 := ownCell HQ.out
  clear HPP
  have HPP := Lib.hid (prexprs_w wh HW.out aW cW B b (l ++ partL wSE (prA n) items ++ (wfr ++ tb.data.toList) ++ joinT jn ++ partL won (prA n) on) ⟨#[32, 87, 72, 69, 82, 69, 32]⟩ wwh rfl w5 HU.out.1 hBW (HE.out.below HU.out.2.1) (kept_put (KE_ok n) HR.out.W HU.out) (by have := HN.out; (try simp only [List.length_append, bsz] at this ⊢); omega))
  go_upto_region 7 with (go_at_call 72; refine HPP.out.mono ?_; rintro e w6 ⟨rfl, hput⟩)
  have HU2 : Hid (Put B b (l ++ partL wSE (prA n) items ++ (wfr ++ tb.data.toList) ++ joinT jn ++ partL won (prA n) on ++ partL wwh (prA n) wh) w w6) := Lib.hid (HU.out.trans hput)
  clear HU
  have HU := HU2
  clear HU2
  replace HQ := Lib.hid (hput.keeps HQ.out (by decide) (by omega))
  replace HX := Lib.hid (hput.keeps HX.out (by decide) (by omega))
  clear x0 x1 x2 x3 x4 x5 x6 x7 x8 x9 x10 x11 x12 x13 q0 hput hBW
  have hBW : B ≤ w6.heap.size := Nat.le_trans hB HU.out.size
  obtain ⟨x0, x1, x2, x3, x4, x5, x6, x7, x8, x9, x10, x11, x12, x13⟩ := cells14 HX.out
  have q0 := ownCell HQ.out
  clear HPP
  have HPP := Lib.hid (prexprs_w gr HG.out aG cG B b (l ++ partL wSE (prA n) items ++ (wfr ++ tb.data.toList) ++ joinT jn ++ partL won (prA n) on ++ partL wwh (prA n) wh) ⟨#[32, 71, 82, 79, 85, 80, 32, 66, 89, 32]⟩ wgr rfl w6 HU.out.1 hBW (HE.out.below HU.out.2.1) (kept_put (KE_ok n) HR.out.G HU.out) (by have := HN.out; (try simp only [List.length_append, bsz] at this ⊢); omega))
  go_upto_region 8 with (go_at_call 72; refine HPP.out.mono ?_; rintro e w7 ⟨rfl, hput⟩)
  have HU2 : Hid (Put B b (l ++ partL wSE (prA n) items ++ (wfr ++ tb.data.toList) ++ joinT jn ++ partL won (prA n) on ++ partL wwh (prA n) wh ++ partL wgr (prA n) gr) w w7) := Lib.hid (HU.out.trans hput)
  clear HU
  have HU := HU2
  clear HU2
  replace HQ := Lib.hid (hput.keeps HQ.out (by decide) (by omega))
  replace HX := Lib.hid (hput.keeps HX.out (by decide) (by omega))
  clear x0 x1 x2 x3 x4 x5 x6 x7 x8 x9 x10 x11 x12 x13 q0 hput hBW
  have hBW : B ≤ w7.heap.size := Nat.le_trans hB HU.out.size
  obtain ⟨x0, x1, x2, x3, x4, x5, x6, x7, x8, x9, x10, x11, x12, x13⟩ := cells14 HX.out
  have q0 := ownCell HQ.out
  clear HPP
  have HPP := Lib.hid (putPartO_w ord HD.out aD cD B b w.heap.size (l ++ partL wSE (prA n) items ++ (wfr ++ tb.data.toList) ++ joinT jn ++ partL won (prA n) on ++ partL wwh (prA n) wh ++ partL wgr (prA n) gr) ⟨#[32, 79, 82, 68, 69, 82, 32, 66, 89, 32]⟩ wor rfl w7 HU.out.1 hBW (HE.out.below HU.out.2.1) (kept_put KO_ok HR.out.D HU.out) HQ.out (by omega) (by have := HN.out; (try simp only [List.length_append, bsz] at this ⊢); omega))
  go_upto_region 9 with (go_at_call 135; refine HPP.out.mono ?_; rintro e w8 ⟨rfl, hput⟩)
  have HU2 : Hid (Put B b (l ++ partL wSE (prA n) items ++ (wfr ++ tb.data.toList) ++ joinT jn ++ partL won (prA n) on ++ partL wwh (prA n) wh ++ partL wgr (prA n) gr ++ partL wor ordT ord) w w8) := Lib.hid (HU.out.trans hput)
  clear HU
  have HU := HU2
  clear HU2
  replace HQ := Lib.hid (hput.keeps HQ.out (by decide) (by omega))
  replace HX := Lib.hid (hput.keeps HX.out (by decide) (by omega))
  clear x0 x1 x2 x3 x4 x5 x6 x7 x8 x9 x10 x11 x12 x13 q0 hput hBW
  have hBW : B ≤ w8.heap.size := Nat.le_trans hB HU.out.size
  obtain ⟨x0, x1, x2, x3, x4, x5, x6, x7, x8, x9, x10, x11, x12, x13⟩ := cells14 HX.out
  have q0 := ownCell HQ.out
  clear HPP
  by_cases hm : lim = -1
  · have hl1 : limT lim = [] := by unfold limT; rw [if_pos hm]
    have hl2 : (lim != -1) = false := by simp [hm]
    have hl3 : (lim == -1) = true := by simp [hm]
    have HJ := Lib.hid hl1
    clear hl1 hm
    go_wp2_with fail
    go_end0
    refine ⟨rfl, ?_⟩
    have h := HU.out
    rw [HJ.out]
    simpa using h
  · have hl2 : (lim != -1) = true := by simp [hm]
    have hl3 : (lim == -1) = false := by simp [hm]
    obtain ⟨k, rfl⟩ := Int.eq_ofNat_of_zero_le (show 0 ≤ lim by omega)
    have hl1 : limT (k : Int) = wli ++ dec k := by unfold limT; rw [if_neg hm]; rfl
    have hk : k ≤ 9223372036854775807 := by omega
    rw [hl1] at HN
    have HJ := Lib.hid hl1
    have HI2 := Lib.hid fun w' (hb : Below w8.heap.size w8 w') => itoa_any k hk B w' ((HE.out.below HU.out.2.1).step hBW hb)
    have hDD : (⟨(dec k).toArray⟩ : ByteArray).data.toList = dec k := rfl
    have hz := mk_size (dec k)
    generalize (⟨(dec k).toArray⟩ : ByteArray) = D at HI2 hDD hz
    rw [← hDD] at HN HJ
    clear hl1 hm hk hDD hz HI HO HW HG HD hlim
    have hz1 : w.heap.size + 1 < w8.heap.size := blk_lt HX.out
    go_upto_region 10 with fail
    go_region_held3 (fun w' => w'.cell? ⟨w.heap.size + 1, 13, none⟩ = some (.int .i64 k) ∧ w'.cell? ⟨w.heap.size, 0, none⟩ = some (.pointer (some ⟨b, 0, none⟩))) (first | assumption | go_keep) (first | (go_at_call 137; refine (HI2.out _ (Below.refl _ w8).drew).mono ?_; rintro e w9 ⟨rfl, hb⟩; have c0 := cell_keep (w := w8.drew) x13 hb; have c1 := cell_keep (w := w8.drew) q0 hb; have n0 := World.new_ne w9 _ c0; have n1 := World.new_ne w9 _ c1; have HX1 := Lib.hid ((hb.block _ hz1).trans HX.out); have HQ2 := Lib.hid ((hb.block _ (blk_lt HQ.out)).trans HQ.out); have HU1 := Lib.hid (HU.out.below hBW (show Below w8.heap.size w8 w9 from (Below.refl _ w8).drew.trans hb)); clear hb x0 x1 x2 x3 x4 x5 x6 x7 x8 x9 x10 x11 x12 x13 q0) | (go_at_call 69; refine (put2 B b _ ⟨#[32, 76, 73, 77, 73, 84, 32]⟩ D _ _ rfl HU1.out.1 (Nat.le_trans hB HU1.out.size) (by rw [z_li]; have := HN.out; (try simp only [List.length_append, bsz] at this ⊢); omega)).mono ?_; rintro e w10 ⟨rfl, hput⟩; have HX2 := Lib.hid (hput.keeps HX1.out (by decide) (by omega)); have HQ3 := Lib.hid (hput.keeps HQ2.out (by decide) (by omega)); have HU2 := Lib.hid (HU1.out.trans hput); have c0 : w10.cell? ⟨w.heap.size + 1, 13, none⟩ = some (.int .i64 k) := (cells14 HX2.out).2.2.2.2.2.2.2.2.2.2.2.2.2; have c1 := ownCell HQ3.out; clear hput))
    all_goals go_wp2_with fail
    all_goals go_end0
    all_goals refine ⟨rfl, ?_⟩
    all_goals have h : Put B b (l ++ partL wSE (prA n) items ++ (wfr ++ tb.data.toList) ++ joinT jn ++ partL won (prA n) on ++ partL wwh (prA n) wh ++ partL wgr (prA n) gr ++ partL wor ordT ord ++ (wli ++ D.data.toList)) w w10 := HU2.out
    all_goals rw [HJ.out]
    all_goals simp only [List.append_assoc] at h ⊢
    all_goals exact h

set_option maxHeartbeats 8000000 in
set_option maxRecDepth 100000 in
theorem prstmt_1 {n : Nat} (x : St n) (h : Hs) (hk : x.kind = 1) (hpr : StPr x) (B b : Nat) (l : List UInt8) (w : World) (hp : Pr B b l w) (hB : B ≤ w.heap.size) (he : Env B w) (hr : RdSt (fun b => b < B) w x h) (hlen : l.length + (stL x).length ≤ 140737488355328) :
    Calls Tryz.prog 32 #[.pointer (some ⟨b, 0, none⟩), x.val h] w fun e w' => e = .returned (.tuple #[]) ∧ Put B b (l ++ (stL x)) w w' := by
  obtain ⟨kind, tb, cols, key, ix, rows, sets, items, jn, on, wh, gr, ord, lim⟩ := x
  obtain ⟨⟨aC, cC⟩, ⟨aR, cR⟩, ⟨aS, cS⟩, ⟨aI, cI⟩, ⟨aO, cO⟩, ⟨aW, cW⟩, ⟨aG, cG⟩, ⟨aD, cD⟩⟩ := h
  dsimp only at hk
  subst hk
  have HT : Hid (stL (⟨1, tb, cols, key, ix, rows, sets, items, jn, on, wh, gr, ord, lim⟩ : St n) = wCT ++ (tb.data.toList ++ (wop ++ (colsT cols ++ (wpk ++ (key.data.toList ++ wcc)))))) := Lib.hid (by unfold stL; simp)
  rw [HT.out] at hlen
  have hc0 : 0 < cols.length := by
    have f := hpr.ok.fm
    simp [formedB, namedB, countedB, onN, hasNm, gL, gH, gTab, spB] at f
    grind
  have HC := Lib.hid fun (w' : World) hp' (hB' : B ≤ w'.heap.size) he' hr' => prtable_any (⟨1, tb, cols, key, ix, rows, sets, items, jn, on, wh, gr, ord, lim⟩ : St n) ⟨⟨aC, cC⟩, ⟨aR, cR⟩, ⟨aS, cS⟩, ⟨aI, cI⟩, ⟨aO, cO⟩, ⟨aW, cW⟩, ⟨aG, cG⟩, ⟨aD, cD⟩⟩ hpr.cols hc0 B b l w' hp' hB' he' hr' hlen
  clear hc0
  unfold St.val St.cs at HC
  dsimp only at HC
  have HR := Lib.hid hr
  have HE := Lib.hid he
  have HN := Lib.hid hlen
  have HS := Lib.hid hpr
  clear hr he hlen hpr
  unfold St.val St.cs
  dsimp only at HN ⊢
  go_enter Tryz.func32, Tryz.ntmps32
  go_upto_region 3 with fail
  have hQ := heap_keep_alloc (heap_alloc_new w (.cells #[.pointer (some ⟨b, 0, none⟩)] 109)) (.cells #[.int .i64 1, .string tb, .slice aC cols.length cC, .string key, .string ix, .slice aR rows.length cR, .slice aS sets.length cS, .slice aI items.length cI, .string jn, .slice aO on.length cO, .slice aW wh.length cW, .slice aG gr.length cG, .slice aD ord.length cD, .int .i64 lim] 28)
  have hX := heap_two w (.cells #[.pointer (some ⟨b, 0, none⟩)] 109) (.cells #[.int .i64 1, .string tb, .slice aC cols.length cC, .string key, .string ix, .slice aR rows.length cR, .slice aS sets.length cS, .slice aI items.length cI, .string jn, .slice aO on.length cO, .slice aW wh.length cW, .slice aG gr.length cG, .slice aD ord.length cD, .int .i64 lim] 28)
  have hU := (Put.refl hp).below hB (below2 w (.cells #[.pointer (some ⟨b, 0, none⟩)] 109) (.cells #[.int .i64 1, .string tb, .slice aC cols.length cC, .string key, .string ix, .slice aR rows.length cR, .slice aS sets.length cS, .slice aI items.length cI, .string jn, .slice aO on.length cO, .slice aW wh.length cW, .slice aG gr.length cG, .slice aD ord.length cD, .int .i64 lim] 28))
  have hql := hp.lt
  generalize ((w.alloc (.cells #[.pointer (some ⟨b, 0, none⟩)] 109)).alloc (.cells #[.int .i64 1, .string tb, .slice aC cols.length cC, .string key, .string ix, .slice aR rows.length cR, .slice aS sets.length cS, .slice aI items.length cI, .string jn, .slice aO on.length cO, .slice aW wh.length cW, .slice aG gr.length cG, .slice aD ord.length cD, .int .i64 lim] 28)) = W at hQ hX hU ⊢
  have HQ := Lib.hid hQ
  have HX := Lib.hid hX
  have HU := Lib.hid hU

  have hBW : B ≤ W.heap.size := Nat.le_trans hB HU.out.size
  clear hQ hX hU hp
  obtain ⟨x0, x1, x2, x3, x4, x5, x6, x7, x8, x9, x10, x11, x12, x13⟩ := cells14 HX.out
  have q0 := ownCell HQ.out
  have HPP := Lib.hid (HC.out W HU.out.1 hBW (HE.out.below HU.out.2.1) ⟨kept_put KC_ok HR.out.C HU.out, kept_put (KR_ok n) HR.out.R HU.out, kept_put (KS_ok n) HR.out.S HU.out, kept_put (KE_ok n) HR.out.I HU.out, kept_put (KE_ok n) HR.out.O HU.out, kept_put (KE_ok n) HR.out.W HU.out, kept_put (KE_ok n) HR.out.G HU.out, kept_put KO_ok HR.out.D HU.out⟩)
  go_wp2_with (go_at_call 68; refine HPP.out.mono ?_; rintro e w2 ⟨rfl, hput⟩)
  go_end0
  refine ⟨rfl, ?_⟩
  have h : Put B b (l ++ (wCT ++ (tb.data.toList ++ (wop ++ (colsT cols ++ (wpk ++ (key.data.toList ++ wcc))))))) w w2 := HU.out.trans hput
  rw [HT.out]
  (try simp only [List.append_assoc] at h ⊢)
  exact h

set_option maxHeartbeats 8000000 in
set_option maxRecDepth 100000 in
theorem prstmt_2 {n : Nat} (x : St n) (h : Hs) (hk : x.kind = 2) (hpr : StPr x) (B b : Nat) (l : List UInt8) (w : World) (hp : Pr B b l w) (hB : B ≤ w.heap.size) (he : Env B w) (hr : RdSt (fun b => b < B) w x h) (hlen : l.length + (stL x).length ≤ 140737488355328) :
    Calls Tryz.prog 32 #[.pointer (some ⟨b, 0, none⟩), x.val h] w fun e w' => e = .returned (.tuple #[]) ∧ Put B b (l ++ (stL x)) w w' := by
  obtain ⟨kind, tb, cols, key, ix, rows, sets, items, jn, on, wh, gr, ord, lim⟩ := x
  obtain ⟨⟨aC, cC⟩, ⟨aR, cR⟩, ⟨aS, cS⟩, ⟨aI, cI⟩, ⟨aO, cO⟩, ⟨aW, cW⟩, ⟨aG, cG⟩, ⟨aD, cD⟩⟩ := h
  dsimp only at hk
  subst hk
  have HT : Hid (stL (⟨2, tb, cols, key, ix, rows, sets, items, jn, on, wh, gr, ord, lim⟩ : St n) = wCI ++ (ix.data.toList ++ (won ++ (tb.data.toList ++ (wop ++ (key.data.toList ++ wcl)))))) := Lib.hid (by unfold stL; simp)
  rw [HT.out] at hlen
  have HR := Lib.hid hr
  have HE := Lib.hid he
  have HN := Lib.hid hlen
  have HS := Lib.hid hpr
  clear hr he hlen hpr
  unfold St.val St.cs
  dsimp only at HN ⊢
  go_enter Tryz.func32, Tryz.ntmps32
  go_upto_region 5 with fail
  have hQ := heap_keep_alloc (heap_alloc_new w (.cells #[.pointer (some ⟨b, 0, none⟩)] 109)) (.cells #[.int .i64 2, .string tb, .slice aC cols.length cC, .string key, .string ix, .slice aR rows.length cR, .slice aS sets.length cS, .slice aI items.length cI, .string jn, .slice aO on.length cO, .slice aW wh.length cW, .slice aG gr.length cG, .slice aD ord.length cD, .int .i64 lim] 28)
  have hX := heap_two w (.cells #[.pointer (some ⟨b, 0, none⟩)] 109) (.cells #[.int .i64 2, .string tb, .slice aC cols.length cC, .string key, .string ix, .slice aR rows.length cR, .slice aS sets.length cS, .slice aI items.length cI, .string jn, .slice aO on.length cO, .slice aW wh.length cW, .slice aG gr.length cG, .slice aD ord.length cD, .int .i64 lim] 28)
  have hU := (Put.refl hp).below hB (below2 w (.cells #[.pointer (some ⟨b, 0, none⟩)] 109) (.cells #[.int .i64 2, .string tb, .slice aC cols.length cC, .string key, .string ix, .slice aR rows.length cR, .slice aS sets.length cS, .slice aI items.length cI, .string jn, .slice aO on.length cO, .slice aW wh.length cW, .slice aG gr.length cG, .slice aD ord.length cD, .int .i64 lim] 28))
  have hql := hp.lt
  generalize ((w.alloc (.cells #[.pointer (some ⟨b, 0, none⟩)] 109)).alloc (.cells #[.int .i64 2, .string tb, .slice aC cols.length cC, .string key, .string ix, .slice aR rows.length cR, .slice aS sets.length cS, .slice aI items.length cI, .string jn, .slice aO on.length cO, .slice aW wh.length cW, .slice aG gr.length cG, .slice aD ord.length cD, .int .i64 lim] 28)) = W at hQ hX hU ⊢
  have HQ := Lib.hid hQ
  have HX := Lib.hid hX
  have HU := Lib.hid hU

  have hBW : B ≤ W.heap.size := Nat.le_trans hB HU.out.size
  clear hQ hX hU hp
  obtain ⟨x0, x1, x2, x3, x4, x5, x6, x7, x8, x9, x10, x11, x12, x13⟩ := cells14 HX.out
  have q0 := ownCell HQ.out
  have z_CI : (⟨#[67, 82, 69, 65, 84, 69, 32, 73, 78, 68, 69, 88, 32]⟩ : ByteArray).size = wCI.length := rfl
  have z_on : (⟨#[32, 79, 78, 32]⟩ : ByteArray).size = won.length := rfl
  have z_op : (⟨#[32, 40]⟩ : ByteArray).size = wop.length := rfl
  have z_cl : (⟨#[41]⟩ : ByteArray).size = wcl.length := rfl
  have HPP := Lib.hid (put7 B b l ⟨#[67, 82, 69, 65, 84, 69, 32, 73, 78, 68, 69, 88, 32]⟩ ix ⟨#[32, 79, 78, 32]⟩ tb ⟨#[32, 40]⟩ key ⟨#[41]⟩ W.heap.size W rfl HU.out.1 hBW (by simp only [z_CI, z_on, z_op, z_cl]; have := HN.out; (try simp only [List.length_append, bsz] at this ⊢); omega))
  go_wp2_with (go_at_call 69; refine HPP.out.mono ?_; rintro e w2 ⟨rfl, hput⟩)
  go_end0
  refine ⟨rfl, ?_⟩
  have h : Put B b (l ++ (wCI ++ (ix.data.toList ++ (won ++ (tb.data.toList ++ (wop ++ (key.data.toList ++ wcl))))))) w w2 := HU.out.trans hput
  rw [HT.out]
  (try simp only [List.append_assoc] at h ⊢)
  exact h

set_option maxHeartbeats 8000000 in
set_option maxRecDepth 100000 in
theorem prstmt_3 {n : Nat} (x : St n) (h : Hs) (hk : x.kind = 3) (hpr : StPr x) (B b : Nat) (l : List UInt8) (w : World) (hp : Pr B b l w) (hB : B ≤ w.heap.size) (he : Env B w) (hr : RdSt (fun b => b < B) w x h) (hlen : l.length + (stL x).length ≤ 140737488355328) :
    Calls Tryz.prog 32 #[.pointer (some ⟨b, 0, none⟩), x.val h] w fun e w' => e = .returned (.tuple #[]) ∧ Put B b (l ++ (stL x)) w w' := by
  obtain ⟨kind, tb, cols, key, ix, rows, sets, items, jn, on, wh, gr, ord, lim⟩ := x
  obtain ⟨⟨aC, cC⟩, ⟨aR, cR⟩, ⟨aS, cS⟩, ⟨aI, cI⟩, ⟨aO, cO⟩, ⟨aW, cW⟩, ⟨aG, cG⟩, ⟨aD, cD⟩⟩ := h
  dsimp only at hk
  subst hk
  have HT : Hid (stL (⟨3, tb, cols, key, ix, rows, sets, items, jn, on, wh, gr, ord, lim⟩ : St n) = wDT ++ tb.data.toList) := Lib.hid (by unfold stL; simp)
  rw [HT.out] at hlen
  have HR := Lib.hid hr
  have HE := Lib.hid he
  have HN := Lib.hid hlen
  have HS := Lib.hid hpr
  clear hr he hlen hpr
  unfold St.val St.cs
  dsimp only at HN ⊢
  go_enter Tryz.func32, Tryz.ntmps32
  go_upto_region 7 with fail
  have hQ := heap_keep_alloc (heap_alloc_new w (.cells #[.pointer (some ⟨b, 0, none⟩)] 109)) (.cells #[.int .i64 3, .string tb, .slice aC cols.length cC, .string key, .string ix, .slice aR rows.length cR, .slice aS sets.length cS, .slice aI items.length cI, .string jn, .slice aO on.length cO, .slice aW wh.length cW, .slice aG gr.length cG, .slice aD ord.length cD, .int .i64 lim] 28)
  have hX := heap_two w (.cells #[.pointer (some ⟨b, 0, none⟩)] 109) (.cells #[.int .i64 3, .string tb, .slice aC cols.length cC, .string key, .string ix, .slice aR rows.length cR, .slice aS sets.length cS, .slice aI items.length cI, .string jn, .slice aO on.length cO, .slice aW wh.length cW, .slice aG gr.length cG, .slice aD ord.length cD, .int .i64 lim] 28)
  have hU := (Put.refl hp).below hB (below2 w (.cells #[.pointer (some ⟨b, 0, none⟩)] 109) (.cells #[.int .i64 3, .string tb, .slice aC cols.length cC, .string key, .string ix, .slice aR rows.length cR, .slice aS sets.length cS, .slice aI items.length cI, .string jn, .slice aO on.length cO, .slice aW wh.length cW, .slice aG gr.length cG, .slice aD ord.length cD, .int .i64 lim] 28))
  have hql := hp.lt
  generalize ((w.alloc (.cells #[.pointer (some ⟨b, 0, none⟩)] 109)).alloc (.cells #[.int .i64 3, .string tb, .slice aC cols.length cC, .string key, .string ix, .slice aR rows.length cR, .slice aS sets.length cS, .slice aI items.length cI, .string jn, .slice aO on.length cO, .slice aW wh.length cW, .slice aG gr.length cG, .slice aD ord.length cD, .int .i64 lim] 28)) = W at hQ hX hU ⊢
  have HQ := Lib.hid hQ
  have HX := Lib.hid hX
  have HU := Lib.hid hU

  have hBW : B ≤ W.heap.size := Nat.le_trans hB HU.out.size
  clear hQ hX hU hp
  obtain ⟨x0, x1, x2, x3, x4, x5, x6, x7, x8, x9, x10, x11, x12, x13⟩ := cells14 HX.out
  have q0 := ownCell HQ.out
  have z_DT : (⟨#[68, 82, 79, 80, 32, 84, 65, 66, 76, 69, 32]⟩ : ByteArray).size = wDT.length := rfl
  have HPP := Lib.hid (put2 B b l ⟨#[68, 82, 79, 80, 32, 84, 65, 66, 76, 69, 32]⟩ tb W.heap.size W rfl HU.out.1 hBW (by simp only [z_DT]; have := HN.out; (try simp only [List.length_append, bsz] at this ⊢); omega))
  go_wp2_with (go_at_call 69; refine HPP.out.mono ?_; rintro e w2 ⟨rfl, hput⟩)
  go_end0
  refine ⟨rfl, ?_⟩
  have h : Put B b (l ++ (wDT ++ tb.data.toList)) w w2 := HU.out.trans hput
  rw [HT.out]
  (try simp only [List.append_assoc] at h ⊢)
  exact h

set_option maxHeartbeats 8000000 in
set_option maxRecDepth 100000 in
theorem prstmt_4 {n : Nat} (x : St n) (h : Hs) (hk : x.kind = 4) (hpr : StPr x) (B b : Nat) (l : List UInt8) (w : World) (hp : Pr B b l w) (hB : B ≤ w.heap.size) (he : Env B w) (hr : RdSt (fun b => b < B) w x h) (hlen : l.length + (stL x).length ≤ 140737488355328) :
    Calls Tryz.prog 32 #[.pointer (some ⟨b, 0, none⟩), x.val h] w fun e w' => e = .returned (.tuple #[]) ∧ Put B b (l ++ (stL x)) w w' := by
  obtain ⟨kind, tb, cols, key, ix, rows, sets, items, jn, on, wh, gr, ord, lim⟩ := x
  obtain ⟨⟨aC, cC⟩, ⟨aR, cR⟩, ⟨aS, cS⟩, ⟨aI, cI⟩, ⟨aO, cO⟩, ⟨aW, cW⟩, ⟨aG, cG⟩, ⟨aD, cD⟩⟩ := h
  dsimp only at hk
  subst hk
  have HT : Hid (stL (⟨4, tb, cols, key, ix, rows, sets, items, jn, on, wh, gr, ord, lim⟩ : St n) = wII ++ (tb.data.toList ++ partL wva rowT rows)) := Lib.hid (by unfold stL; simp)
  rw [HT.out] at hlen
  have HR := Lib.hid hr
  have HE := Lib.hid he
  have HN := Lib.hid hlen
  have HS := Lib.hid hpr
  clear hr he hlen hpr
  unfold St.val St.cs
  dsimp only at HN ⊢
  go_enter Tryz.func32, Tryz.ntmps32
  go_upto_region 9 with fail
  have hQ := heap_keep_alloc (heap_alloc_new w (.cells #[.pointer (some ⟨b, 0, none⟩)] 109)) (.cells #[.int .i64 4, .string tb, .slice aC cols.length cC, .string key, .string ix, .slice aR rows.length cR, .slice aS sets.length cS, .slice aI items.length cI, .string jn, .slice aO on.length cO, .slice aW wh.length cW, .slice aG gr.length cG, .slice aD ord.length cD, .int .i64 lim] 28)
  have hX := heap_two w (.cells #[.pointer (some ⟨b, 0, none⟩)] 109) (.cells #[.int .i64 4, .string tb, .slice aC cols.length cC, .string key, .string ix, .slice aR rows.length cR, .slice aS sets.length cS, .slice aI items.length cI, .string jn, .slice aO on.length cO, .slice aW wh.length cW, .slice aG gr.length cG, .slice aD ord.length cD, .int .i64 lim] 28)
  have hU := (Put.refl hp).below hB (below2 w (.cells #[.pointer (some ⟨b, 0, none⟩)] 109) (.cells #[.int .i64 4, .string tb, .slice aC cols.length cC, .string key, .string ix, .slice aR rows.length cR, .slice aS sets.length cS, .slice aI items.length cI, .string jn, .slice aO on.length cO, .slice aW wh.length cW, .slice aG gr.length cG, .slice aD ord.length cD, .int .i64 lim] 28))
  have hql := hp.lt
  generalize ((w.alloc (.cells #[.pointer (some ⟨b, 0, none⟩)] 109)).alloc (.cells #[.int .i64 4, .string tb, .slice aC cols.length cC, .string key, .string ix, .slice aR rows.length cR, .slice aS sets.length cS, .slice aI items.length cI, .string jn, .slice aO on.length cO, .slice aW wh.length cW, .slice aG gr.length cG, .slice aD ord.length cD, .int .i64 lim] 28)) = W at hQ hX hU ⊢
  have HQ := Lib.hid hQ
  have HX := Lib.hid hX
  have HU := Lib.hid hU

  have hBW : B ≤ W.heap.size := Nat.le_trans hB HU.out.size
  clear hQ hX hU hp
  obtain ⟨x0, x1, x2, x3, x4, x5, x6, x7, x8, x9, x10, x11, x12, x13⟩ := cells14 HX.out
  have q0 := ownCell HQ.out
  have z_II : (⟨#[73, 78, 83, 69, 82, 84, 32, 73, 78, 84, 79, 32]⟩ : ByteArray).size = wII.length := rfl
  have HPP := Lib.hid (put2 B b l ⟨#[73, 78, 83, 69, 82, 84, 32, 73, 78, 84, 79, 32]⟩ tb W.heap.size W rfl HU.out.1 hBW (by simp only [z_II]; have := HN.out; (try simp only [List.length_append, bsz] at this ⊢); omega))
  go_upto_region 10 with (go_at_call 69; refine HPP.out.mono ?_; rintro e w2 ⟨rfl, hput⟩)
  have HU2 : Hid (Put B b (l ++ (wII ++ tb.data.toList)) w w2) := Lib.hid (HU.out.trans hput)
  clear HU
  have HU := HU2
  clear HU2
  replace HQ := Lib.hid (hput.keeps HQ.out (by decide) (by omega))
  replace HX := Lib.hid (hput.keeps HX.out (by decide) (by omega))
  clear x0 x1 x2 x3 x4 x5 x6 x7 x8 x9 x10 x11 x12 x13 q0 hput hBW
  have hBW : B ≤ w2.heap.size := Nat.le_trans hB HU.out.size
  obtain ⟨x0, x1, x2, x3, x4, x5, x6, x7, x8, x9, x10, x11, x12, x13⟩ := cells14 HX.out
  have q0 := ownCell HQ.out
  clear HPP
  have HPP := Lib.hid (putPartR_w rows HS.out.rows aR cR B b w.heap.size (l ++ (wII ++ tb.data.toList)) ⟨#[32, 86, 65, 76, 85, 69, 83, 32]⟩ wva rfl w2 HU.out.1 hBW (HE.out.below HU.out.2.1) (kept_put (KR_ok n) HR.out.R HU.out) HQ.out (by omega) (by have := HN.out; (try simp only [List.length_append, bsz] at this ⊢); omega))
  go_wp2_with (go_at_call 70; refine HPP.out.mono ?_; rintro e w3 ⟨rfl, hput⟩)
  go_end0
  refine ⟨rfl, ?_⟩
  have h : Put B b (l ++ (wII ++ tb.data.toList) ++ partL wva rowT rows) w w3 := HU.out.trans hput
  rw [HT.out]
  (try simp only [List.append_assoc] at h ⊢)
  exact h

set_option maxHeartbeats 8000000 in
set_option maxRecDepth 100000 in
theorem prstmt_5 {n : Nat} (x : St n) (h : Hs) (hk : x.kind = 5) (hpr : StPr x) (B b : Nat) (l : List UInt8) (w : World) (hp : Pr B b l w) (hB : B ≤ w.heap.size) (he : Env B w) (hr : RdSt (fun b => b < B) w x h) (hlen : l.length + (stL x).length ≤ 140737488355328) :
    Calls Tryz.prog 32 #[.pointer (some ⟨b, 0, none⟩), x.val h] w fun e w' => e = .returned (.tuple #[]) ∧ Put B b (l ++ (stL x)) w w' := by
  obtain ⟨kind, tb, cols, key, ix, rows, sets, items, jn, on, wh, gr, ord, lim⟩ := x
  obtain ⟨⟨aC, cC⟩, ⟨aR, cR⟩, ⟨aS, cS⟩, ⟨aI, cI⟩, ⟨aO, cO⟩, ⟨aW, cW⟩, ⟨aG, cG⟩, ⟨aD, cD⟩⟩ := h
  dsimp only at hk
  subst hk
  have HT : Hid (stL (⟨5, tb, cols, key, ix, rows, sets, items, jn, on, wh, gr, ord, lim⟩ : St n) = wUP ++ (tb.data.toList ++ (partL wst setT sets ++ partL wwh (prA n) wh))) := Lib.hid (by unfold stL; simp)
  rw [HT.out] at hlen
  have HR := Lib.hid hr
  have HE := Lib.hid he
  have HN := Lib.hid hlen
  have HS := Lib.hid hpr
  clear hr he hlen hpr
  unfold St.val St.cs
  dsimp only at HN ⊢
  go_enter Tryz.func32, Tryz.ntmps32
  go_upto_region 12 with fail
  have hQ := heap_keep_alloc (heap_alloc_new w (.cells #[.pointer (some ⟨b, 0, none⟩)] 109)) (.cells #[.int .i64 5, .string tb, .slice aC cols.length cC, .string key, .string ix, .slice aR rows.length cR, .slice aS sets.length cS, .slice aI items.length cI, .string jn, .slice aO on.length cO, .slice aW wh.length cW, .slice aG gr.length cG, .slice aD ord.length cD, .int .i64 lim] 28)
  have hX := heap_two w (.cells #[.pointer (some ⟨b, 0, none⟩)] 109) (.cells #[.int .i64 5, .string tb, .slice aC cols.length cC, .string key, .string ix, .slice aR rows.length cR, .slice aS sets.length cS, .slice aI items.length cI, .string jn, .slice aO on.length cO, .slice aW wh.length cW, .slice aG gr.length cG, .slice aD ord.length cD, .int .i64 lim] 28)
  have hU := (Put.refl hp).below hB (below2 w (.cells #[.pointer (some ⟨b, 0, none⟩)] 109) (.cells #[.int .i64 5, .string tb, .slice aC cols.length cC, .string key, .string ix, .slice aR rows.length cR, .slice aS sets.length cS, .slice aI items.length cI, .string jn, .slice aO on.length cO, .slice aW wh.length cW, .slice aG gr.length cG, .slice aD ord.length cD, .int .i64 lim] 28))
  have hql := hp.lt
  generalize ((w.alloc (.cells #[.pointer (some ⟨b, 0, none⟩)] 109)).alloc (.cells #[.int .i64 5, .string tb, .slice aC cols.length cC, .string key, .string ix, .slice aR rows.length cR, .slice aS sets.length cS, .slice aI items.length cI, .string jn, .slice aO on.length cO, .slice aW wh.length cW, .slice aG gr.length cG, .slice aD ord.length cD, .int .i64 lim] 28)) = W at hQ hX hU ⊢
  have HQ := Lib.hid hQ
  have HX := Lib.hid hX
  have HU := Lib.hid hU

  have hBW : B ≤ W.heap.size := Nat.le_trans hB HU.out.size
  clear hQ hX hU hp
  obtain ⟨x0, x1, x2, x3, x4, x5, x6, x7, x8, x9, x10, x11, x12, x13⟩ := cells14 HX.out
  have q0 := ownCell HQ.out
  have z_UP : (⟨#[85, 80, 68, 65, 84, 69, 32]⟩ : ByteArray).size = wUP.length := rfl
  have HPP := Lib.hid (put2 B b l ⟨#[85, 80, 68, 65, 84, 69, 32]⟩ tb W.heap.size W rfl HU.out.1 hBW (by simp only [z_UP]; have := HN.out; (try simp only [List.length_append, bsz] at this ⊢); omega))
  go_upto_region 13 with (go_at_call 69; refine HPP.out.mono ?_; rintro e w2 ⟨rfl, hput⟩)
  have HU2 : Hid (Put B b (l ++ (wUP ++ tb.data.toList)) w w2) := Lib.hid (HU.out.trans hput)
  clear HU
  have HU := HU2
  clear HU2
  replace HQ := Lib.hid (hput.keeps HQ.out (by decide) (by omega))
  replace HX := Lib.hid (hput.keeps HX.out (by decide) (by omega))
  clear x0 x1 x2 x3 x4 x5 x6 x7 x8 x9 x10 x11 x12 x13 q0 hput hBW
  have hBW : B ≤ w2.heap.size := Nat.le_trans hB HU.out.size
  obtain ⟨x0, x1, x2, x3, x4, x5, x6, x7, x8, x9, x10, x11, x12, x13⟩ := cells14 HX.out
  have q0 := ownCell HQ.out
  clear HPP
  have HPP := Lib.hid (putPartS_w sets HS.out.sets aS cS B b w.heap.size (l ++ (wUP ++ tb.data.toList)) ⟨#[32, 83, 69, 84, 32]⟩ wst rfl w2 HU.out.1 hBW (HE.out.below HU.out.2.1) (kept_put (KS_ok n) HR.out.S HU.out) HQ.out (by omega) (by have := HN.out; (try simp only [List.length_append, bsz] at this ⊢); omega))
  go_upto_region 14 with (go_at_call 73; refine HPP.out.mono ?_; rintro e w3 ⟨rfl, hput⟩)
  have HU2 : Hid (Put B b (l ++ (wUP ++ tb.data.toList) ++ partL wst setT sets) w w3) := Lib.hid (HU.out.trans hput)
  clear HU
  have HU := HU2
  clear HU2
  replace HQ := Lib.hid (hput.keeps HQ.out (by decide) (by omega))
  replace HX := Lib.hid (hput.keeps HX.out (by decide) (by omega))
  clear x0 x1 x2 x3 x4 x5 x6 x7 x8 x9 x10 x11 x12 x13 q0 hput hBW
  have hBW : B ≤ w3.heap.size := Nat.le_trans hB HU.out.size
  obtain ⟨x0, x1, x2, x3, x4, x5, x6, x7, x8, x9, x10, x11, x12, x13⟩ := cells14 HX.out
  have q0 := ownCell HQ.out
  clear HPP
  have HPP := Lib.hid (prexprs_w wh HS.out.wh aW cW B b (l ++ (wUP ++ tb.data.toList) ++ partL wst setT sets) ⟨#[32, 87, 72, 69, 82, 69, 32]⟩ wwh rfl w3 HU.out.1 hBW (HE.out.below HU.out.2.1) (kept_put (KE_ok n) HR.out.W HU.out) (by have := HN.out; (try simp only [List.length_append, bsz] at this ⊢); omega))
  go_wp2_with (go_at_call 72; refine HPP.out.mono ?_; rintro e w4 ⟨rfl, hput⟩)
  go_end0
  refine ⟨rfl, ?_⟩
  have h : Put B b (l ++ (wUP ++ tb.data.toList) ++ partL wst setT sets ++ partL wwh (prA n) wh) w w4 := HU.out.trans hput
  rw [HT.out]
  (try simp only [List.append_assoc] at h ⊢)
  exact h

set_option maxHeartbeats 8000000 in
set_option maxRecDepth 100000 in
theorem prstmt_6 {n : Nat} (x : St n) (h : Hs) (hk : x.kind = 6) (hpr : StPr x) (B b : Nat) (l : List UInt8) (w : World) (hp : Pr B b l w) (hB : B ≤ w.heap.size) (he : Env B w) (hr : RdSt (fun b => b < B) w x h) (hlen : l.length + (stL x).length ≤ 140737488355328) :
    Calls Tryz.prog 32 #[.pointer (some ⟨b, 0, none⟩), x.val h] w fun e w' => e = .returned (.tuple #[]) ∧ Put B b (l ++ (stL x)) w w' := by
  obtain ⟨kind, tb, cols, key, ix, rows, sets, items, jn, on, wh, gr, ord, lim⟩ := x
  obtain ⟨⟨aC, cC⟩, ⟨aR, cR⟩, ⟨aS, cS⟩, ⟨aI, cI⟩, ⟨aO, cO⟩, ⟨aW, cW⟩, ⟨aG, cG⟩, ⟨aD, cD⟩⟩ := h
  dsimp only at hk
  subst hk
  have HT : Hid (stL (⟨6, tb, cols, key, ix, rows, sets, items, jn, on, wh, gr, ord, lim⟩ : St n) = wDF ++ (tb.data.toList ++ partL wwh (prA n) wh)) := Lib.hid (by unfold stL; simp)
  rw [HT.out] at hlen
  have HR := Lib.hid hr
  have HE := Lib.hid he
  have HN := Lib.hid hlen
  have HS := Lib.hid hpr
  clear hr he hlen hpr
  unfold St.val St.cs
  dsimp only at HN ⊢
  go_enter Tryz.func32, Tryz.ntmps32
  go_upto_region 16 with fail
  have hQ := heap_keep_alloc (heap_alloc_new w (.cells #[.pointer (some ⟨b, 0, none⟩)] 109)) (.cells #[.int .i64 6, .string tb, .slice aC cols.length cC, .string key, .string ix, .slice aR rows.length cR, .slice aS sets.length cS, .slice aI items.length cI, .string jn, .slice aO on.length cO, .slice aW wh.length cW, .slice aG gr.length cG, .slice aD ord.length cD, .int .i64 lim] 28)
  have hX := heap_two w (.cells #[.pointer (some ⟨b, 0, none⟩)] 109) (.cells #[.int .i64 6, .string tb, .slice aC cols.length cC, .string key, .string ix, .slice aR rows.length cR, .slice aS sets.length cS, .slice aI items.length cI, .string jn, .slice aO on.length cO, .slice aW wh.length cW, .slice aG gr.length cG, .slice aD ord.length cD, .int .i64 lim] 28)
  have hU := (Put.refl hp).below hB (below2 w (.cells #[.pointer (some ⟨b, 0, none⟩)] 109) (.cells #[.int .i64 6, .string tb, .slice aC cols.length cC, .string key, .string ix, .slice aR rows.length cR, .slice aS sets.length cS, .slice aI items.length cI, .string jn, .slice aO on.length cO, .slice aW wh.length cW, .slice aG gr.length cG, .slice aD ord.length cD, .int .i64 lim] 28))
  have hql := hp.lt
  generalize ((w.alloc (.cells #[.pointer (some ⟨b, 0, none⟩)] 109)).alloc (.cells #[.int .i64 6, .string tb, .slice aC cols.length cC, .string key, .string ix, .slice aR rows.length cR, .slice aS sets.length cS, .slice aI items.length cI, .string jn, .slice aO on.length cO, .slice aW wh.length cW, .slice aG gr.length cG, .slice aD ord.length cD, .int .i64 lim] 28)) = W at hQ hX hU ⊢
  have HQ := Lib.hid hQ
  have HX := Lib.hid hX
  have HU := Lib.hid hU

  have hBW : B ≤ W.heap.size := Nat.le_trans hB HU.out.size
  clear hQ hX hU hp
  obtain ⟨x0, x1, x2, x3, x4, x5, x6, x7, x8, x9, x10, x11, x12, x13⟩ := cells14 HX.out
  have q0 := ownCell HQ.out
  have z_DF : (⟨#[68, 69, 76, 69, 84, 69, 32, 70, 82, 79, 77, 32]⟩ : ByteArray).size = wDF.length := rfl
  have HPP := Lib.hid (put2 B b l ⟨#[68, 69, 76, 69, 84, 69, 32, 70, 82, 79, 77, 32]⟩ tb W.heap.size W rfl HU.out.1 hBW (by simp only [z_DF]; have := HN.out; (try simp only [List.length_append, bsz] at this ⊢); omega))
  go_upto_region 17 with (go_at_call 69; refine HPP.out.mono ?_; rintro e w2 ⟨rfl, hput⟩)
  have HU2 : Hid (Put B b (l ++ (wDF ++ tb.data.toList)) w w2) := Lib.hid (HU.out.trans hput)
  clear HU
  have HU := HU2
  clear HU2
  replace HQ := Lib.hid (hput.keeps HQ.out (by decide) (by omega))
  replace HX := Lib.hid (hput.keeps HX.out (by decide) (by omega))
  clear x0 x1 x2 x3 x4 x5 x6 x7 x8 x9 x10 x11 x12 x13 q0 hput hBW
  have hBW : B ≤ w2.heap.size := Nat.le_trans hB HU.out.size
  obtain ⟨x0, x1, x2, x3, x4, x5, x6, x7, x8, x9, x10, x11, x12, x13⟩ := cells14 HX.out
  have q0 := ownCell HQ.out
  clear HPP
  have HPP := Lib.hid (prexprs_w wh HS.out.wh aW cW B b (l ++ (wDF ++ tb.data.toList)) ⟨#[32, 87, 72, 69, 82, 69, 32]⟩ wwh rfl w2 HU.out.1 hBW (HE.out.below HU.out.2.1) (kept_put (KE_ok n) HR.out.W HU.out) (by have := HN.out; (try simp only [List.length_append, bsz] at this ⊢); omega))
  go_wp2_with (go_at_call 72; refine HPP.out.mono ?_; rintro e w3 ⟨rfl, hput⟩)
  go_end0
  refine ⟨rfl, ?_⟩
  have h : Put B b (l ++ (wDF ++ tb.data.toList) ++ partL wwh (prA n) wh) w w3 := HU.out.trans hput
  rw [HT.out]
  (try simp only [List.append_assoc] at h ⊢)
  exact h

set_option maxHeartbeats 8000000 in
set_option maxRecDepth 100000 in
theorem prstmt_7 {n : Nat} (x : St n) (h : Hs) (hk : x.kind = 7) (hpr : StPr x) (B b : Nat) (l : List UInt8) (w : World) (hp : Pr B b l w) (hB : B ≤ w.heap.size) (he : Env B w) (hr : RdSt (fun b => b < B) w x h) (hlen : l.length + (stL x).length ≤ 140737488355328) :
    Calls Tryz.prog 32 #[.pointer (some ⟨b, 0, none⟩), x.val h] w fun e w' => e = .returned (.tuple #[]) ∧ Put B b (l ++ (stL x)) w w' := by
  obtain ⟨kind, tb, cols, key, ix, rows, sets, items, jn, on, wh, gr, ord, lim⟩ := x
  obtain ⟨⟨aC, cC⟩, ⟨aR, cR⟩, ⟨aS, cS⟩, ⟨aI, cI⟩, ⟨aO, cO⟩, ⟨aW, cW⟩, ⟨aG, cG⟩, ⟨aD, cD⟩⟩ := h
  dsimp only at hk
  subst hk
  have HT : Hid (stL (⟨7, tb, cols, key, ix, rows, sets, items, jn, on, wh, gr, ord, lim⟩ : St n) = queryT (⟨7, tb, cols, key, ix, rows, sets, items, jn, on, wh, gr, ord, lim⟩ : St n)) := Lib.hid (by unfold stL; simp)
  rw [HT.out] at hlen
  have hlim : -1 ≤ lim ∧ lim ≤ 2147483648 := by
    have f := hpr.ok.fm
    simp [formedB, namedB, countedB, onN, hasNm, gL, gH, gTab, spB] at f
    grind
  have HC := Lib.hid fun (w' : World) hp' (hB' : B ≤ w'.heap.size) he' hr' => prquery_any (⟨7, tb, cols, key, ix, rows, sets, items, jn, on, wh, gr, ord, lim⟩ : St n) ⟨⟨aC, cC⟩, ⟨aR, cR⟩, ⟨aS, cS⟩, ⟨aI, cI⟩, ⟨aO, cO⟩, ⟨aW, cW⟩, ⟨aG, cG⟩, ⟨aD, cD⟩⟩ hpr.items hpr.on hpr.wh hpr.gr hpr.ord hlim B b l w' hp' hB' he' hr' hlen
  clear hlim
  generalize queryT (⟨7, tb, cols, key, ix, rows, sets, items, jn, on, wh, gr, ord, lim⟩ : St n) = QT at HC HT hlen
  unfold St.val St.cs at HC
  dsimp only at HC
  have HR := Lib.hid hr
  have HE := Lib.hid he
  have HN := Lib.hid hlen
  have HS := Lib.hid hpr
  clear hr he hlen hpr
  unfold St.val St.cs
  dsimp only at HN ⊢
  go_enter Tryz.func32, Tryz.ntmps32
  go_upto_region 19 with fail
  have hQ := heap_keep_alloc (heap_alloc_new w (.cells #[.pointer (some ⟨b, 0, none⟩)] 109)) (.cells #[.int .i64 7, .string tb, .slice aC cols.length cC, .string key, .string ix, .slice aR rows.length cR, .slice aS sets.length cS, .slice aI items.length cI, .string jn, .slice aO on.length cO, .slice aW wh.length cW, .slice aG gr.length cG, .slice aD ord.length cD, .int .i64 lim] 28)
  have hX := heap_two w (.cells #[.pointer (some ⟨b, 0, none⟩)] 109) (.cells #[.int .i64 7, .string tb, .slice aC cols.length cC, .string key, .string ix, .slice aR rows.length cR, .slice aS sets.length cS, .slice aI items.length cI, .string jn, .slice aO on.length cO, .slice aW wh.length cW, .slice aG gr.length cG, .slice aD ord.length cD, .int .i64 lim] 28)
  have hU := (Put.refl hp).below hB (below2 w (.cells #[.pointer (some ⟨b, 0, none⟩)] 109) (.cells #[.int .i64 7, .string tb, .slice aC cols.length cC, .string key, .string ix, .slice aR rows.length cR, .slice aS sets.length cS, .slice aI items.length cI, .string jn, .slice aO on.length cO, .slice aW wh.length cW, .slice aG gr.length cG, .slice aD ord.length cD, .int .i64 lim] 28))
  have hql := hp.lt
  generalize ((w.alloc (.cells #[.pointer (some ⟨b, 0, none⟩)] 109)).alloc (.cells #[.int .i64 7, .string tb, .slice aC cols.length cC, .string key, .string ix, .slice aR rows.length cR, .slice aS sets.length cS, .slice aI items.length cI, .string jn, .slice aO on.length cO, .slice aW wh.length cW, .slice aG gr.length cG, .slice aD ord.length cD, .int .i64 lim] 28)) = W at hQ hX hU ⊢
  have HQ := Lib.hid hQ
  have HX := Lib.hid hX
  have HU := Lib.hid hU

  have hBW : B ≤ W.heap.size := Nat.le_trans hB HU.out.size
  clear hQ hX hU hp
  obtain ⟨x0, x1, x2, x3, x4, x5, x6, x7, x8, x9, x10, x11, x12, x13⟩ := cells14 HX.out
  have q0 := ownCell HQ.out
  have HPP := Lib.hid (HC.out W HU.out.1 hBW (HE.out.below HU.out.2.1) ⟨kept_put KC_ok HR.out.C HU.out, kept_put (KR_ok n) HR.out.R HU.out, kept_put (KS_ok n) HR.out.S HU.out, kept_put (KE_ok n) HR.out.I HU.out, kept_put (KE_ok n) HR.out.O HU.out, kept_put (KE_ok n) HR.out.W HU.out, kept_put (KE_ok n) HR.out.G HU.out, kept_put KO_ok HR.out.D HU.out⟩)
  go_wp2_with (go_at_call 76; refine HPP.out.mono ?_; rintro e w2 ⟨rfl, hput⟩)
  go_end0
  refine ⟨rfl, ?_⟩
  have h : Put B b (l ++ QT) w w2 := HU.out.trans hput
  rw [HT.out]
  (try simp only [List.append_assoc] at h ⊢)
  exact h

set_option maxHeartbeats 8000000 in
set_option maxRecDepth 100000 in
theorem prstmt_8 {n : Nat} (x : St n) (h : Hs) (hk : x.kind = 8) (hpr : StPr x) (B b : Nat) (l : List UInt8) (w : World) (hp : Pr B b l w) (hB : B ≤ w.heap.size) (he : Env B w) (hr : RdSt (fun b => b < B) w x h) (hlen : l.length + (stL x).length ≤ 140737488355328) :
    Calls Tryz.prog 32 #[.pointer (some ⟨b, 0, none⟩), x.val h] w fun e w' => e = .returned (.tuple #[]) ∧ Put B b (l ++ (stL x)) w w' := by
  obtain ⟨kind, tb, cols, key, ix, rows, sets, items, jn, on, wh, gr, ord, lim⟩ := x
  obtain ⟨⟨aC, cC⟩, ⟨aR, cR⟩, ⟨aS, cS⟩, ⟨aI, cI⟩, ⟨aO, cO⟩, ⟨aW, cW⟩, ⟨aG, cG⟩, ⟨aD, cD⟩⟩ := h
  dsimp only at hk
  subst hk
  have HT : Hid (stL (⟨8, tb, cols, key, ix, rows, sets, items, jn, on, wh, gr, ord, lim⟩ : St n) = wBE) := Lib.hid (by unfold stL; simp)
  rw [HT.out] at hlen
  have HR := Lib.hid hr
  have HE := Lib.hid he
  have HN := Lib.hid hlen
  have HS := Lib.hid hpr
  clear hr he hlen hpr
  unfold St.val St.cs
  dsimp only at HN ⊢
  go_enter Tryz.func32, Tryz.ntmps32
  go_upto_region 21 with fail
  have hQ := heap_keep_alloc (heap_alloc_new w (.cells #[.pointer (some ⟨b, 0, none⟩)] 109)) (.cells #[.int .i64 8, .string tb, .slice aC cols.length cC, .string key, .string ix, .slice aR rows.length cR, .slice aS sets.length cS, .slice aI items.length cI, .string jn, .slice aO on.length cO, .slice aW wh.length cW, .slice aG gr.length cG, .slice aD ord.length cD, .int .i64 lim] 28)
  have hX := heap_two w (.cells #[.pointer (some ⟨b, 0, none⟩)] 109) (.cells #[.int .i64 8, .string tb, .slice aC cols.length cC, .string key, .string ix, .slice aR rows.length cR, .slice aS sets.length cS, .slice aI items.length cI, .string jn, .slice aO on.length cO, .slice aW wh.length cW, .slice aG gr.length cG, .slice aD ord.length cD, .int .i64 lim] 28)
  have hU := (Put.refl hp).below hB (below2 w (.cells #[.pointer (some ⟨b, 0, none⟩)] 109) (.cells #[.int .i64 8, .string tb, .slice aC cols.length cC, .string key, .string ix, .slice aR rows.length cR, .slice aS sets.length cS, .slice aI items.length cI, .string jn, .slice aO on.length cO, .slice aW wh.length cW, .slice aG gr.length cG, .slice aD ord.length cD, .int .i64 lim] 28))
  have hql := hp.lt
  generalize ((w.alloc (.cells #[.pointer (some ⟨b, 0, none⟩)] 109)).alloc (.cells #[.int .i64 8, .string tb, .slice aC cols.length cC, .string key, .string ix, .slice aR rows.length cR, .slice aS sets.length cS, .slice aI items.length cI, .string jn, .slice aO on.length cO, .slice aW wh.length cW, .slice aG gr.length cG, .slice aD ord.length cD, .int .i64 lim] 28)) = W at hQ hX hU ⊢
  have HQ := Lib.hid hQ
  have HX := Lib.hid hX
  have HU := Lib.hid hU

  have hBW : B ≤ W.heap.size := Nat.le_trans hB HU.out.size
  clear hQ hX hU hp
  obtain ⟨x0, x1, x2, x3, x4, x5, x6, x7, x8, x9, x10, x11, x12, x13⟩ := cells14 HX.out
  have q0 := ownCell HQ.out
  have z_BE : (⟨#[66, 69, 71, 73, 78]⟩ : ByteArray).size = wBE.length := rfl
  have HPP := Lib.hid (put1 B b l ⟨#[66, 69, 71, 73, 78]⟩ W.heap.size W rfl HU.out.1 hBW (by simp only [z_BE]; have := HN.out; (try simp only [List.length_append, bsz] at this ⊢); omega))
  go_wp2_with (go_at_call 69; refine HPP.out.mono ?_; rintro e w2 ⟨rfl, hput⟩)
  go_end0
  refine ⟨rfl, ?_⟩
  have h : Put B b (l ++ wBE) w w2 := HU.out.trans hput
  rw [HT.out]
  (try simp only [List.append_assoc] at h ⊢)
  exact h

set_option maxHeartbeats 8000000 in
set_option maxRecDepth 100000 in
theorem prstmt_9 {n : Nat} (x : St n) (h : Hs) (hk : x.kind = 9) (hpr : StPr x) (B b : Nat) (l : List UInt8) (w : World) (hp : Pr B b l w) (hB : B ≤ w.heap.size) (he : Env B w) (hr : RdSt (fun b => b < B) w x h) (hlen : l.length + (stL x).length ≤ 140737488355328) :
    Calls Tryz.prog 32 #[.pointer (some ⟨b, 0, none⟩), x.val h] w fun e w' => e = .returned (.tuple #[]) ∧ Put B b (l ++ (stL x)) w w' := by
  obtain ⟨kind, tb, cols, key, ix, rows, sets, items, jn, on, wh, gr, ord, lim⟩ := x
  obtain ⟨⟨aC, cC⟩, ⟨aR, cR⟩, ⟨aS, cS⟩, ⟨aI, cI⟩, ⟨aO, cO⟩, ⟨aW, cW⟩, ⟨aG, cG⟩, ⟨aD, cD⟩⟩ := h
  dsimp only at hk
  subst hk
  have HT : Hid (stL (⟨9, tb, cols, key, ix, rows, sets, items, jn, on, wh, gr, ord, lim⟩ : St n) = wCO) := Lib.hid (by unfold stL; simp)
  rw [HT.out] at hlen
  have HR := Lib.hid hr
  have HE := Lib.hid he
  have HN := Lib.hid hlen
  have HS := Lib.hid hpr
  clear hr he hlen hpr
  unfold St.val St.cs
  dsimp only at HN ⊢
  go_enter Tryz.func32, Tryz.ntmps32
  go_upto_region 23 with fail
  have hQ := heap_keep_alloc (heap_alloc_new w (.cells #[.pointer (some ⟨b, 0, none⟩)] 109)) (.cells #[.int .i64 9, .string tb, .slice aC cols.length cC, .string key, .string ix, .slice aR rows.length cR, .slice aS sets.length cS, .slice aI items.length cI, .string jn, .slice aO on.length cO, .slice aW wh.length cW, .slice aG gr.length cG, .slice aD ord.length cD, .int .i64 lim] 28)
  have hX := heap_two w (.cells #[.pointer (some ⟨b, 0, none⟩)] 109) (.cells #[.int .i64 9, .string tb, .slice aC cols.length cC, .string key, .string ix, .slice aR rows.length cR, .slice aS sets.length cS, .slice aI items.length cI, .string jn, .slice aO on.length cO, .slice aW wh.length cW, .slice aG gr.length cG, .slice aD ord.length cD, .int .i64 lim] 28)
  have hU := (Put.refl hp).below hB (below2 w (.cells #[.pointer (some ⟨b, 0, none⟩)] 109) (.cells #[.int .i64 9, .string tb, .slice aC cols.length cC, .string key, .string ix, .slice aR rows.length cR, .slice aS sets.length cS, .slice aI items.length cI, .string jn, .slice aO on.length cO, .slice aW wh.length cW, .slice aG gr.length cG, .slice aD ord.length cD, .int .i64 lim] 28))
  have hql := hp.lt
  generalize ((w.alloc (.cells #[.pointer (some ⟨b, 0, none⟩)] 109)).alloc (.cells #[.int .i64 9, .string tb, .slice aC cols.length cC, .string key, .string ix, .slice aR rows.length cR, .slice aS sets.length cS, .slice aI items.length cI, .string jn, .slice aO on.length cO, .slice aW wh.length cW, .slice aG gr.length cG, .slice aD ord.length cD, .int .i64 lim] 28)) = W at hQ hX hU ⊢
  have HQ := Lib.hid hQ
  have HX := Lib.hid hX
  have HU := Lib.hid hU

  have hBW : B ≤ W.heap.size := Nat.le_trans hB HU.out.size
  clear hQ hX hU hp
  obtain ⟨x0, x1, x2, x3, x4, x5, x6, x7, x8, x9, x10, x11, x12, x13⟩ := cells14 HX.out
  have q0 := ownCell HQ.out
  have z_CO : (⟨#[67, 79, 77, 77, 73, 84]⟩ : ByteArray).size = wCO.length := rfl
  have HPP := Lib.hid (put1 B b l ⟨#[67, 79, 77, 77, 73, 84]⟩ W.heap.size W rfl HU.out.1 hBW (by simp only [z_CO]; have := HN.out; (try simp only [List.length_append, bsz] at this ⊢); omega))
  go_wp2_with (go_at_call 69; refine HPP.out.mono ?_; rintro e w2 ⟨rfl, hput⟩)
  go_end0
  refine ⟨rfl, ?_⟩
  have h : Put B b (l ++ wCO) w w2 := HU.out.trans hput
  rw [HT.out]
  (try simp only [List.append_assoc] at h ⊢)
  exact h

set_option maxHeartbeats 8000000 in
set_option maxRecDepth 100000 in
theorem prstmt_10 {n : Nat} (x : St n) (h : Hs) (hk : x.kind = 10) (hpr : StPr x) (B b : Nat) (l : List UInt8) (w : World) (hp : Pr B b l w) (hB : B ≤ w.heap.size) (he : Env B w) (hr : RdSt (fun b => b < B) w x h) (hlen : l.length + (stL x).length ≤ 140737488355328) :
    Calls Tryz.prog 32 #[.pointer (some ⟨b, 0, none⟩), x.val h] w fun e w' => e = .returned (.tuple #[]) ∧ Put B b (l ++ (stL x)) w w' := by
  obtain ⟨kind, tb, cols, key, ix, rows, sets, items, jn, on, wh, gr, ord, lim⟩ := x
  obtain ⟨⟨aC, cC⟩, ⟨aR, cR⟩, ⟨aS, cS⟩, ⟨aI, cI⟩, ⟨aO, cO⟩, ⟨aW, cW⟩, ⟨aG, cG⟩, ⟨aD, cD⟩⟩ := h
  dsimp only at hk
  subst hk
  have HT : Hid (stL (⟨10, tb, cols, key, ix, rows, sets, items, jn, on, wh, gr, ord, lim⟩ : St n) = wRO) := Lib.hid (by unfold stL; simp)
  rw [HT.out] at hlen
  have HR := Lib.hid hr
  have HE := Lib.hid he
  have HN := Lib.hid hlen
  have HS := Lib.hid hpr
  clear hr he hlen hpr
  unfold St.val St.cs
  dsimp only at HN ⊢
  go_enter Tryz.func32, Tryz.ntmps32
  go_upto_region 25 with fail
  have hQ := heap_keep_alloc (heap_alloc_new w (.cells #[.pointer (some ⟨b, 0, none⟩)] 109)) (.cells #[.int .i64 10, .string tb, .slice aC cols.length cC, .string key, .string ix, .slice aR rows.length cR, .slice aS sets.length cS, .slice aI items.length cI, .string jn, .slice aO on.length cO, .slice aW wh.length cW, .slice aG gr.length cG, .slice aD ord.length cD, .int .i64 lim] 28)
  have hX := heap_two w (.cells #[.pointer (some ⟨b, 0, none⟩)] 109) (.cells #[.int .i64 10, .string tb, .slice aC cols.length cC, .string key, .string ix, .slice aR rows.length cR, .slice aS sets.length cS, .slice aI items.length cI, .string jn, .slice aO on.length cO, .slice aW wh.length cW, .slice aG gr.length cG, .slice aD ord.length cD, .int .i64 lim] 28)
  have hU := (Put.refl hp).below hB (below2 w (.cells #[.pointer (some ⟨b, 0, none⟩)] 109) (.cells #[.int .i64 10, .string tb, .slice aC cols.length cC, .string key, .string ix, .slice aR rows.length cR, .slice aS sets.length cS, .slice aI items.length cI, .string jn, .slice aO on.length cO, .slice aW wh.length cW, .slice aG gr.length cG, .slice aD ord.length cD, .int .i64 lim] 28))
  have hql := hp.lt
  generalize ((w.alloc (.cells #[.pointer (some ⟨b, 0, none⟩)] 109)).alloc (.cells #[.int .i64 10, .string tb, .slice aC cols.length cC, .string key, .string ix, .slice aR rows.length cR, .slice aS sets.length cS, .slice aI items.length cI, .string jn, .slice aO on.length cO, .slice aW wh.length cW, .slice aG gr.length cG, .slice aD ord.length cD, .int .i64 lim] 28)) = W at hQ hX hU ⊢
  have HQ := Lib.hid hQ
  have HX := Lib.hid hX
  have HU := Lib.hid hU

  have hBW : B ≤ W.heap.size := Nat.le_trans hB HU.out.size
  clear hQ hX hU hp
  obtain ⟨x0, x1, x2, x3, x4, x5, x6, x7, x8, x9, x10, x11, x12, x13⟩ := cells14 HX.out
  have q0 := ownCell HQ.out
  have z_RO : (⟨#[82, 79, 76, 76, 66, 65, 67, 75]⟩ : ByteArray).size = wRO.length := rfl
  have HPP := Lib.hid (put1 B b l ⟨#[82, 79, 76, 76, 66, 65, 67, 75]⟩ W.heap.size W rfl HU.out.1 hBW (by simp only [z_RO]; have := HN.out; (try simp only [List.length_append, bsz] at this ⊢); omega))
  go_wp2_with (go_at_call 69; refine HPP.out.mono ?_; rintro e w2 ⟨rfl, hput⟩)
  go_end0
  refine ⟨rfl, ?_⟩
  have h : Put B b (l ++ wRO) w w2 := HU.out.trans hput
  rw [HT.out]
  (try simp only [List.append_assoc] at h ⊢)
  exact h

theorem prstmt_any {n : Nat} (x : St n) (h : Hs) (hpr : StPr x) (B b : Nat) (l : List UInt8) (w : World) (hp : Pr B b l w) (hB : B ≤ w.heap.size) (he : Env B w) (hr : RdSt (fun b => b < B) w x h) (hlen : l.length + (stL x).length ≤ 140737488355328) :
    Calls Tryz.prog 32 #[.pointer (some ⟨b, 0, none⟩), x.val h] w fun e w' => e = .returned (.tuple #[]) ∧ Put B b (l ++ (stL x)) w w' := by
  have h1 := hpr.ok.lo
  have h2 := hpr.ok.hi
  have : x.kind = 1 ∨ x.kind = 2 ∨ x.kind = 3 ∨ x.kind = 4 ∨ x.kind = 5 ∨ x.kind = 6 ∨ x.kind = 7 ∨ x.kind = 8 ∨ x.kind = 9 ∨ x.kind = 10 := by omega
  rcases this with e | e | e | e | e | e | e | e | e | e
  · exact prstmt_1 x h e hpr B b l w hp hB he hr hlen
  · exact prstmt_2 x h e hpr B b l w hp hB he hr hlen
  · exact prstmt_3 x h e hpr B b l w hp hB he hr hlen
  · exact prstmt_4 x h e hpr B b l w hp hB he hr hlen
  · exact prstmt_5 x h e hpr B b l w hp hB he hr hlen
  · exact prstmt_6 x h e hpr B b l w hp hB he hr hlen
  · exact prstmt_7 x h e hpr B b l w hp hB he hr hlen
  · exact prstmt_8 x h e hpr B b l w hp hB he hr hlen
  · exact prstmt_9 x h e hpr B b l w hp hB he hr hlen
  · exact prstmt_10 x h e hpr B b l w hp hB he hr hlen

/-- What Print answers beside the error. -/
noncomputable def stX {n : Nat} (x : St n) : ByteArray := if chkSt x = 0 then ⟨(stL x).toArray⟩ else ⟨#[]⟩
theorem stX_ok {n : Nat} {x : St n} (h : chkSt x = 0) : stX x = ⟨(stL x).toArray⟩ := by unfold stX; rw [if_pos h]
theorem stX_no {n : Nat} {x : St n} (h : ¬ chkSt x = 0) : stX x = ⟨#[]⟩ := by unfold stX; rw [if_neg h]
theorem RdSt.lt {n : Nat} {w : World} {x : St n} {h : Hs} (r : RdSt Any w x h) : RdSt (fun b => b < w.heap.size) w x h := r.mono fun _ _ h => h
set_option maxHeartbeats 4000000 in
set_option maxRecDepth 100000 in
theorem sPrint_any {n : Nat} (x : St n) (h : Hs) (w : World) (hr : RdSt Any w x h) (he : Env w.heap.size w) :
    Calls Tryz.prog 12 #[x.val h] w fun e w' => e = .returned (.tuple #[.string (stX x), .int .i64 (chkSt x)]) ∧ Below w.heap.size w w' := by
  have HC := Lib.hid fun w' (hb : Below w.heap.size w w') => sCheck_any x h w' (hr.below hb)
  by_cases hz : chkSt x = 0
  · have hpr := st_pr hz
    have hlen := stL_len hpr
    have hne := stL_ne hpr.ok
    have HP := Lib.hid fun b w' hp (hb : Below w.heap.size w w') => prstmt_any x h hpr w.heap.size b [] w' hp hb.size (he.below hb) (hr.lt.below hb) (by simp; omega)
    rw [stX_ok hz, hz]
    rw [hz] at HC
    clear hz hr hpr
    simp only [List.nil_append] at HP
    generalize stL x = S at *
    have HN := Lib.hid hne
    have HLn := Lib.hid hlen
    clear hlen hne
    obtain ⟨kind, tb, cols, key, ix, rows, sets, items, jn, on, wh, gr, ord, lim⟩ := x
    obtain ⟨⟨aC, cC⟩, ⟨aR, cR⟩, ⟨aS, cS⟩, ⟨aI, cI⟩, ⟨aO, cO⟩, ⟨aW, cW⟩, ⟨aG, cG⟩, ⟨aD, cD⟩⟩ := h
    unfold St.val St.cs at HC HP ⊢
    dsimp only at HC HP ⊢
    go_enter Tryz.func12, Tryz.ntmps12
    go_upto_region 4 with (go_at_call 15; refine (HC.out _ (below1 _ _)).mono ?_; rintro e w2 ⟨rfl, hb⟩; obtain ⟨x0, x1, x2, x3, x4, x5, x6, x7, x8, x9, x10, x11, x12, x13⟩ := cells14 (heap1 hb); have HB := Lib.hid (below_of1 hb); have hz2 : w.heap.size < w2.heap.size := (by have := hb.size; simp at this; omega); clear hb)
    have HPr := Lib.hid (builder_new HB.out.size)
    go_upto_region 6 with (go_at_call 32; refine (HP.out _ _ HPr.out (HB.out.alloc HB.out.size _)).mono ?_; rintro e w3 ⟨rfl, hput⟩; have HB3 := Lib.hid ((HB.out.alloc HB.out.size (.cells #[.pointer none, .slice none 0 0] 66)).trans hput.2.1))
    have HS := Lib.hid fun (W : World) => string_any BT_p w.heap.size w2.heap.size S W
    have HQ := Lib.hid hput.1
    clear hput
    go_wp2_with (go_at_call 33; refine (HS.out _ HQ.out HN.out).mono ?_; rintro e w4 ⟨rfl, hb⟩; have HB4 := Lib.hid (HB3.out.trans hb); clear hb)
    go_ret2
    exact ⟨rfl, HB4.out⟩
  · rw [stX_no hz]
    have hne : (chkSt x != 0) = true := by simpa using hz
    clear hz hr he
    generalize chkSt x = E at *
    obtain ⟨kind, tb, cols, key, ix, rows, sets, items, jn, on, wh, gr, ord, lim⟩ := x
    obtain ⟨⟨aC, cC⟩, ⟨aR, cR⟩, ⟨aS, cS⟩, ⟨aI, cI⟩, ⟨aO, cO⟩, ⟨aW, cW⟩, ⟨aG, cG⟩, ⟨aD, cD⟩⟩ := h
    unfold St.val St.cs at HC ⊢
    dsimp only at HC ⊢
    go_enter Tryz.func12, Tryz.ntmps12
    go_wp2_with (go_at_call 15; refine (HC.out _ (below1 _ _)).mono ?_; rintro e w2 ⟨rfl, hb⟩; have HB := Lib.hid (below_of1 hb); clear hb)
    go_ret2
    exact ⟨rfl, HB.out⟩

end Go.Proofs.YtnbgnofbeklmkaaGreatDoor
