/- How columns and orders are printed by the program: the walks of their closures, lists and parts. Conditions: what may be, read in memory; the tables that strconv and strings read, as they are laid; lengths that every machine keeps. -/
import Derived.Test.YtnbgnofbeklmkaaGreatDoorGc

namespace Go.Proofs.YtnbgnofbeklmkaaGreatDoor
open Go.RowKit
set_option linter.unusedSimpArgs false
set_option linter.unusedVariables false

/-- What an order keeps to be printed. -/
def OrdOk (o : Od) : Prop := 0 ≤ o.n ∧ o.n ≤ 9223372036854775807
def kindS (k : Int) : ByteArray := ⟨(kindL k).toArray⟩

set_option maxHeartbeats 4000000 in
set_option maxRecDepth 100000 in
theorem prtable1_1 (m : ByteArray) (nn : Bool) (B b q g : Nat) (l : List UInt8) (w : World) (hp : Pr B b l w) (hB : B ≤ w.heap.size)
    (hq : w.heap[q]? = some (.cells #[.pointer (some ⟨b, 0, none⟩)] 109 (0, 0))) (hqb : q ≠ b) (hk : w.heap[g]? = some kindO) (hgb : g ≠ b) (hlen : l.length + (colT ⟨m, 1, nn⟩).length ≤ 140737488355328) :
    Calls Tryz.prog 124 #[(⟨m, 1, nn⟩ : Cl).val, .pointer (some ⟨q, 0, none⟩), .pointer (some ⟨g, 0, none⟩)] w fun e w' => e = .returned (.tuple #[]) ∧ Put B b (l ++ colT ⟨m, 1, nn⟩) w w' := by
  have ht : colT ⟨m, 1, nn⟩ = m.data.toList ++ ((⟨#[32]⟩ : ByteArray).data.toList ++ (⟨#[73, 78, 84]⟩ : ByteArray).data.toList) ++ (if nn = true then (⟨#[32, 78, 79, 84, 32, 78, 85, 76, 76]⟩ : ByteArray).data.toList else []) := by
    unfold colT
    cases nn <;> simp [kindL, wKI, wKB, wKT, wnn]
  rw [ht] at hlen ⊢
  simp only [List.length_append, bsz] at hlen
  have HQ := Lib.hid hq
  have HK := Lib.hid hk
  have hpl := hp.lt
  have hql := blk_lt hq
  have hgl := blk_lt hk
  have HU := Lib.hid ((Put.refl hp).below hB (below1 w (.cells #[.string m, .int .i64 1, .bool nn] 82)))
  have hX := heap_alloc_new w (.cells #[.string m, .int .i64 1, .bool nn] 82)
  have HQ1 := Lib.hid (heap_keep_alloc HQ.out (.cells #[.string m, .int .i64 1, .bool nn] 82))
  have hK1 := heap_keep_alloc HK.out (.cells #[.string m, .int .i64 1, .bool nn] 82)
  have hN := Lib.hid hlen
  clear hq hk hp ht hlen
  unfold Cl.val
  dsimp only
  go_enter Tryz.func124, Tryz.ntmps124
  go_upto_region 1 with fail
  generalize (w.alloc (.cells #[.string m, .int .i64 1, .bool nn] 82)) = W at hX HQ1 hK1 HU ⊢
  obtain ⟨x0, x1, x2⟩ := cells3_of hX
  have q0 := ownCell HQ1.out
  have k0 : W.cell? ⟨g, 1, none⟩ = some (.string ⟨#[73, 78, 84]⟩) := by
    unfold kindO at hK1
    simp [World.cell?, hK1]
  have HXX := Lib.hid hX
  have hKK := Lib.hid hK1
  unfold kindO at hKK
  clear hX hK1
  have n0 := World.new_ne W _ x0
  have n1 := World.new_ne W _ q0
  have n2 := World.new_ne W _ k0
  go_cut [12] (fun s wd => Put B b (l ++ (m.data.toList ++ ((⟨#[32]⟩ : ByteArray).data.toList ++ (⟨#[73, 78, 84]⟩ : ByteArray).data.toList))) w wd ∧ wd.heap[w.heap.size]? = some (.cells #[.string m, .int .i64 1, .bool nn] 82 (0, 0)) ∧ wd.heap[q]? = some (.cells #[.pointer (some ⟨b, 0, none⟩)] 109 (0, 0)))
  case first =>
    have HUd := Lib.hid (HU.out.below (Nat.le_trans hB HU.out.size) (Below.refl _ W).drew)
    have HPP := Lib.hid (put3 B b l m ⟨#[32]⟩ ⟨#[73, 78, 84]⟩ W.drew.heap.size W.drew rfl HUd.out.1 (Nat.le_trans hB HU.out.size) (by have := hN.out; have e : (⟨#[32]⟩ : ByteArray).size = 1 := rfl; have e2 : (⟨#[73, 78, 84]⟩ : ByteArray).size = 3 := rfl; have e3 : (⟨#[32]⟩ : ByteArray).data.toList.length = 1 := rfl; have e4 : (⟨#[73, 78, 84]⟩ : ByteArray).data.toList.length = 3 := rfl; simp only [e, e2, e3, e4] at *; omega))
    go_region_held3 (fun w' => w'.cell? ⟨w.heap.size, 0, none⟩ = some (.string m) ∧ w'.cell? ⟨w.heap.size, 1, none⟩ = some (.int .i64 1) ∧ w'.cell? ⟨q, 0, none⟩ = some (.pointer (some ⟨b, 0, none⟩)) ∧ w'.cell? ⟨g, 1, none⟩ = some (.string ⟨#[73, 78, 84]⟩)) (first | assumption | go_keep) ((go_at_call 69; refine (show Calls Tryz.prog 69 #[.pointer (some ⟨b, 0, none⟩), .slice (some ⟨W.heap.size, 0, none⟩) 3 3] (W.alloc (.cells #[.string m, .string ⟨#[32]⟩, .string ⟨#[73, 78, 84]⟩] 9)).drew _ from HPP.out).mono ?_; rintro e w2 ⟨rfl, hput⟩; have HX2 := Lib.hid (hput.keeps (w := W.drew) HXX.out (by decide) (by omega)); have HQ3 := Lib.hid (hput.keeps (w := W.drew) HQ1.out (by decide) hqb); have HK3 := hput.keeps (w := W.drew) hKK.out (by decide) hgb; have HU2 := Lib.hid (HUd.out.trans hput); have c0 := (cells3_of HX2.out).1; have c2 := (cells3_of HX2.out).2.1; have c1 := ownCell HQ3.out; have c3 : w2.cell? ⟨g, 1, none⟩ = some (.string ⟨#[73, 78, 84]⟩) := (by simp [World.cell?, HK3]); clear hput HK3))
    all_goals (go_wp2_with fail; go_meet; exact ⟨HU2.out, HX2.out, HQ3.out⟩)
  case rest =>
   obtain ⟨hput, hX, hQ⟩ := hcut
   clear x0 x1 x2 q0 k0 n0 n1 n2
   obtain ⟨x0, x1, x2⟩ := cells3_of hX
   have q0 := ownCell hQ
   have HV := Lib.hid hput
   clear hput hX hQ HXX HQ1
   cases nn
   · go_wp2_with fail
     go_end0
     refine ⟨rfl, ?_⟩
     have h := HV.out
     simpa using h
   · have HP4 := Lib.hid (put1 B b _ ⟨#[32, 78, 79, 84, 32, 78, 85, 76, 76]⟩ wc.heap.size wc rfl HV.out.1 (Nat.le_trans hB HV.out.size) (by have := hN.out; have e : (⟨#[32, 78, 79, 84, 32, 78, 85, 76, 76]⟩ : ByteArray).size = 9 := rfl; simp only [if_true, List.length_append, bsz, e] at this ⊢; omega))
     go_wp2_with (go_at_call 69; refine HP4.out.mono ?_; rintro e w3 ⟨rfl, hput⟩)
     go_end0
     refine ⟨rfl, ?_⟩
     have h := HV.out.trans hput
     simpa using h

set_option maxHeartbeats 4000000 in
set_option maxRecDepth 100000 in
theorem prtable1_2 (m : ByteArray) (nn : Bool) (B b q g : Nat) (l : List UInt8) (w : World) (hp : Pr B b l w) (hB : B ≤ w.heap.size)
    (hq : w.heap[q]? = some (.cells #[.pointer (some ⟨b, 0, none⟩)] 109 (0, 0))) (hqb : q ≠ b) (hk : w.heap[g]? = some kindO) (hgb : g ≠ b) (hlen : l.length + (colT ⟨m, 2, nn⟩).length ≤ 140737488355328) :
    Calls Tryz.prog 124 #[(⟨m, 2, nn⟩ : Cl).val, .pointer (some ⟨q, 0, none⟩), .pointer (some ⟨g, 0, none⟩)] w fun e w' => e = .returned (.tuple #[]) ∧ Put B b (l ++ colT ⟨m, 2, nn⟩) w w' := by
  have ht : colT ⟨m, 2, nn⟩ = m.data.toList ++ ((⟨#[32]⟩ : ByteArray).data.toList ++ (⟨#[66, 79, 79, 76]⟩ : ByteArray).data.toList) ++ (if nn = true then (⟨#[32, 78, 79, 84, 32, 78, 85, 76, 76]⟩ : ByteArray).data.toList else []) := by
    unfold colT
    cases nn <;> simp [kindL, wKI, wKB, wKT, wnn]
  rw [ht] at hlen ⊢
  simp only [List.length_append, bsz] at hlen
  have HQ := Lib.hid hq
  have HK := Lib.hid hk
  have hpl := hp.lt
  have hql := blk_lt hq
  have hgl := blk_lt hk
  have HU := Lib.hid ((Put.refl hp).below hB (below1 w (.cells #[.string m, .int .i64 2, .bool nn] 82)))
  have hX := heap_alloc_new w (.cells #[.string m, .int .i64 2, .bool nn] 82)
  have HQ1 := Lib.hid (heap_keep_alloc HQ.out (.cells #[.string m, .int .i64 2, .bool nn] 82))
  have hK1 := heap_keep_alloc HK.out (.cells #[.string m, .int .i64 2, .bool nn] 82)
  have hN := Lib.hid hlen
  clear hq hk hp ht hlen
  unfold Cl.val
  dsimp only
  go_enter Tryz.func124, Tryz.ntmps124
  go_upto_region 1 with fail
  generalize (w.alloc (.cells #[.string m, .int .i64 2, .bool nn] 82)) = W at hX HQ1 hK1 HU ⊢
  obtain ⟨x0, x1, x2⟩ := cells3_of hX
  have q0 := ownCell HQ1.out
  have k0 : W.cell? ⟨g, 2, none⟩ = some (.string ⟨#[66, 79, 79, 76]⟩) := by
    unfold kindO at hK1
    simp [World.cell?, hK1]
  have HXX := Lib.hid hX
  have hKK := Lib.hid hK1
  unfold kindO at hKK
  clear hX hK1
  have n0 := World.new_ne W _ x0
  have n1 := World.new_ne W _ q0
  have n2 := World.new_ne W _ k0
  go_cut [12] (fun s wd => Put B b (l ++ (m.data.toList ++ ((⟨#[32]⟩ : ByteArray).data.toList ++ (⟨#[66, 79, 79, 76]⟩ : ByteArray).data.toList))) w wd ∧ wd.heap[w.heap.size]? = some (.cells #[.string m, .int .i64 2, .bool nn] 82 (0, 0)) ∧ wd.heap[q]? = some (.cells #[.pointer (some ⟨b, 0, none⟩)] 109 (0, 0)))
  case first =>
    have HUd := Lib.hid (HU.out.below (Nat.le_trans hB HU.out.size) (Below.refl _ W).drew)
    have HPP := Lib.hid (put3 B b l m ⟨#[32]⟩ ⟨#[66, 79, 79, 76]⟩ W.drew.heap.size W.drew rfl HUd.out.1 (Nat.le_trans hB HU.out.size) (by have := hN.out; have e : (⟨#[32]⟩ : ByteArray).size = 1 := rfl; have e2 : (⟨#[66, 79, 79, 76]⟩ : ByteArray).size = 4 := rfl; have e3 : (⟨#[32]⟩ : ByteArray).data.toList.length = 1 := rfl; have e4 : (⟨#[66, 79, 79, 76]⟩ : ByteArray).data.toList.length = 4 := rfl; simp only [e, e2, e3, e4] at *; omega))
    go_region_held3 (fun w' => w'.cell? ⟨w.heap.size, 0, none⟩ = some (.string m) ∧ w'.cell? ⟨w.heap.size, 1, none⟩ = some (.int .i64 2) ∧ w'.cell? ⟨q, 0, none⟩ = some (.pointer (some ⟨b, 0, none⟩)) ∧ w'.cell? ⟨g, 2, none⟩ = some (.string ⟨#[66, 79, 79, 76]⟩)) (first | assumption | go_keep) ((go_at_call 69; refine (show Calls Tryz.prog 69 #[.pointer (some ⟨b, 0, none⟩), .slice (some ⟨W.heap.size, 0, none⟩) 3 3] (W.alloc (.cells #[.string m, .string ⟨#[32]⟩, .string ⟨#[66, 79, 79, 76]⟩] 9)).drew _ from HPP.out).mono ?_; rintro e w2 ⟨rfl, hput⟩; have HX2 := Lib.hid (hput.keeps (w := W.drew) HXX.out (by decide) (by omega)); have HQ3 := Lib.hid (hput.keeps (w := W.drew) HQ1.out (by decide) hqb); have HK3 := hput.keeps (w := W.drew) hKK.out (by decide) hgb; have HU2 := Lib.hid (HUd.out.trans hput); have c0 := (cells3_of HX2.out).1; have c2 := (cells3_of HX2.out).2.1; have c1 := ownCell HQ3.out; have c3 : w2.cell? ⟨g, 2, none⟩ = some (.string ⟨#[66, 79, 79, 76]⟩) := (by simp [World.cell?, HK3]); clear hput HK3))
    all_goals (go_wp2_with fail; go_meet; exact ⟨HU2.out, HX2.out, HQ3.out⟩)
  case rest =>
   obtain ⟨hput, hX, hQ⟩ := hcut
   clear x0 x1 x2 q0 k0 n0 n1 n2
   obtain ⟨x0, x1, x2⟩ := cells3_of hX
   have q0 := ownCell hQ
   have HV := Lib.hid hput
   clear hput hX hQ HXX HQ1
   cases nn
   · go_wp2_with fail
     go_end0
     refine ⟨rfl, ?_⟩
     have h := HV.out
     simpa using h
   · have HP4 := Lib.hid (put1 B b _ ⟨#[32, 78, 79, 84, 32, 78, 85, 76, 76]⟩ wc.heap.size wc rfl HV.out.1 (Nat.le_trans hB HV.out.size) (by have := hN.out; have e : (⟨#[32, 78, 79, 84, 32, 78, 85, 76, 76]⟩ : ByteArray).size = 9 := rfl; simp only [if_true, List.length_append, bsz, e] at this ⊢; omega))
     go_wp2_with (go_at_call 69; refine HP4.out.mono ?_; rintro e w3 ⟨rfl, hput⟩)
     go_end0
     refine ⟨rfl, ?_⟩
     have h := HV.out.trans hput
     simpa using h

set_option maxHeartbeats 4000000 in
set_option maxRecDepth 100000 in
theorem prtable1_3 (m : ByteArray) (nn : Bool) (B b q g : Nat) (l : List UInt8) (w : World) (hp : Pr B b l w) (hB : B ≤ w.heap.size)
    (hq : w.heap[q]? = some (.cells #[.pointer (some ⟨b, 0, none⟩)] 109 (0, 0))) (hqb : q ≠ b) (hk : w.heap[g]? = some kindO) (hgb : g ≠ b) (hlen : l.length + (colT ⟨m, 3, nn⟩).length ≤ 140737488355328) :
    Calls Tryz.prog 124 #[(⟨m, 3, nn⟩ : Cl).val, .pointer (some ⟨q, 0, none⟩), .pointer (some ⟨g, 0, none⟩)] w fun e w' => e = .returned (.tuple #[]) ∧ Put B b (l ++ colT ⟨m, 3, nn⟩) w w' := by
  have ht : colT ⟨m, 3, nn⟩ = m.data.toList ++ ((⟨#[32]⟩ : ByteArray).data.toList ++ (⟨#[84, 69, 88, 84]⟩ : ByteArray).data.toList) ++ (if nn = true then (⟨#[32, 78, 79, 84, 32, 78, 85, 76, 76]⟩ : ByteArray).data.toList else []) := by
    unfold colT
    cases nn <;> simp [kindL, wKI, wKB, wKT, wnn]
  rw [ht] at hlen ⊢
  simp only [List.length_append, bsz] at hlen
  have HQ := Lib.hid hq
  have HK := Lib.hid hk
  have hpl := hp.lt
  have hql := blk_lt hq
  have hgl := blk_lt hk
  have HU := Lib.hid ((Put.refl hp).below hB (below1 w (.cells #[.string m, .int .i64 3, .bool nn] 82)))
  have hX := heap_alloc_new w (.cells #[.string m, .int .i64 3, .bool nn] 82)
  have HQ1 := Lib.hid (heap_keep_alloc HQ.out (.cells #[.string m, .int .i64 3, .bool nn] 82))
  have hK1 := heap_keep_alloc HK.out (.cells #[.string m, .int .i64 3, .bool nn] 82)
  have hN := Lib.hid hlen
  clear hq hk hp ht hlen
  unfold Cl.val
  dsimp only
  go_enter Tryz.func124, Tryz.ntmps124
  go_upto_region 1 with fail
  generalize (w.alloc (.cells #[.string m, .int .i64 3, .bool nn] 82)) = W at hX HQ1 hK1 HU ⊢
  obtain ⟨x0, x1, x2⟩ := cells3_of hX
  have q0 := ownCell HQ1.out
  have k0 : W.cell? ⟨g, 3, none⟩ = some (.string ⟨#[84, 69, 88, 84]⟩) := by
    unfold kindO at hK1
    simp [World.cell?, hK1]
  have HXX := Lib.hid hX
  have hKK := Lib.hid hK1
  unfold kindO at hKK
  clear hX hK1
  have n0 := World.new_ne W _ x0
  have n1 := World.new_ne W _ q0
  have n2 := World.new_ne W _ k0
  go_cut [12] (fun s wd => Put B b (l ++ (m.data.toList ++ ((⟨#[32]⟩ : ByteArray).data.toList ++ (⟨#[84, 69, 88, 84]⟩ : ByteArray).data.toList))) w wd ∧ wd.heap[w.heap.size]? = some (.cells #[.string m, .int .i64 3, .bool nn] 82 (0, 0)) ∧ wd.heap[q]? = some (.cells #[.pointer (some ⟨b, 0, none⟩)] 109 (0, 0)))
  case first =>
    have HUd := Lib.hid (HU.out.below (Nat.le_trans hB HU.out.size) (Below.refl _ W).drew)
    have HPP := Lib.hid (put3 B b l m ⟨#[32]⟩ ⟨#[84, 69, 88, 84]⟩ W.drew.heap.size W.drew rfl HUd.out.1 (Nat.le_trans hB HU.out.size) (by have := hN.out; have e : (⟨#[32]⟩ : ByteArray).size = 1 := rfl; have e2 : (⟨#[84, 69, 88, 84]⟩ : ByteArray).size = 4 := rfl; have e3 : (⟨#[32]⟩ : ByteArray).data.toList.length = 1 := rfl; have e4 : (⟨#[84, 69, 88, 84]⟩ : ByteArray).data.toList.length = 4 := rfl; simp only [e, e2, e3, e4] at *; omega))
    go_region_held3 (fun w' => w'.cell? ⟨w.heap.size, 0, none⟩ = some (.string m) ∧ w'.cell? ⟨w.heap.size, 1, none⟩ = some (.int .i64 3) ∧ w'.cell? ⟨q, 0, none⟩ = some (.pointer (some ⟨b, 0, none⟩)) ∧ w'.cell? ⟨g, 3, none⟩ = some (.string ⟨#[84, 69, 88, 84]⟩)) (first | assumption | go_keep) ((go_at_call 69; refine (show Calls Tryz.prog 69 #[.pointer (some ⟨b, 0, none⟩), .slice (some ⟨W.heap.size, 0, none⟩) 3 3] (W.alloc (.cells #[.string m, .string ⟨#[32]⟩, .string ⟨#[84, 69, 88, 84]⟩] 9)).drew _ from HPP.out).mono ?_; rintro e w2 ⟨rfl, hput⟩; have HX2 := Lib.hid (hput.keeps (w := W.drew) HXX.out (by decide) (by omega)); have HQ3 := Lib.hid (hput.keeps (w := W.drew) HQ1.out (by decide) hqb); have HK3 := hput.keeps (w := W.drew) hKK.out (by decide) hgb; have HU2 := Lib.hid (HUd.out.trans hput); have c0 := (cells3_of HX2.out).1; have c2 := (cells3_of HX2.out).2.1; have c1 := ownCell HQ3.out; have c3 : w2.cell? ⟨g, 3, none⟩ = some (.string ⟨#[84, 69, 88, 84]⟩) := (by simp [World.cell?, HK3]); clear hput HK3))
    all_goals (go_wp2_with fail; go_meet; exact ⟨HU2.out, HX2.out, HQ3.out⟩)
  case rest =>
   obtain ⟨hput, hX, hQ⟩ := hcut
   clear x0 x1 x2 q0 k0 n0 n1 n2
   obtain ⟨x0, x1, x2⟩ := cells3_of hX
   have q0 := ownCell hQ
   have HV := Lib.hid hput
   clear hput hX hQ HXX HQ1
   cases nn
   · go_wp2_with fail
     go_end0
     refine ⟨rfl, ?_⟩
     have h := HV.out
     simpa using h
   · have HP4 := Lib.hid (put1 B b _ ⟨#[32, 78, 79, 84, 32, 78, 85, 76, 76]⟩ wc.heap.size wc rfl HV.out.1 (Nat.le_trans hB HV.out.size) (by have := hN.out; have e : (⟨#[32, 78, 79, 84, 32, 78, 85, 76, 76]⟩ : ByteArray).size = 9 := rfl; simp only [if_true, List.length_append, bsz, e] at this ⊢; omega))
     go_wp2_with (go_at_call 69; refine HP4.out.mono ?_; rintro e w3 ⟨rfl, hput⟩)
     go_end0
     refine ⟨rfl, ?_⟩
     have h := HV.out.trans hput
     simpa using h

theorem prtable1_any (y : Cl) (hy : colB y = true) (B b q g : Nat) (l : List UInt8) (w : World) (hp : Pr B b l w) (hB : B ≤ w.heap.size) (he : Env B w)
    (hq : w.heap[q]? = some (.cells #[.pointer (some ⟨b, 0, none⟩)] 109 (0, 0))) (hqb : q ≠ b) (hk : w.heap[g]? = some kindO ∧ g ≠ b) (hlen : l.length + (colT y).length ≤ 140737488355328) :
    Calls Tryz.prog 124 #[y.val, .pointer (some ⟨q, 0, none⟩), .pointer (some ⟨g, 0, none⟩)] w fun e w' => e = .returned (.tuple #[]) ∧ Put B b (l ++ colT y) w w' := by
  obtain ⟨m, k, nn⟩ := y
  unfold colB spB at hy
  simp only [Bool.and_eq_true, decide_eq_true_eq] at hy
  have h : k = 1 ∨ k = 2 ∨ k = 3 := by omega
  rcases h with rfl | rfl | rfl
  · exact prtable1_1 m nn B b q g l w hp hB hq hqb hk.1 hk.2 hlen
  · exact prtable1_2 m nn B b q g l w hp hB hq hqb hk.1 hk.2 hlen
  · exact prtable1_3 m nn B b q g l w hp hB hq hqb hk.1 hk.2 hlen

set_option maxHeartbeats 4000000 in
set_option maxRecDepth 100000 in
theorem prquery1_any (y : Od) (hy : OrdOk y) (B b q : Nat) (l : List UInt8) (w : World) (hp : Pr B b l w) (hB : B ≤ w.heap.size) (he : Env B w)
    (hq : w.heap[q]? = some (.cells #[.pointer (some ⟨b, 0, none⟩)] 109 (0, 0))) (hqb : q ≠ b) (hlen : l.length + (ordT y).length ≤ 140737488355328) :
    Calls Tryz.prog 136 #[y.val, .pointer (some ⟨q, 0, none⟩)] w fun e w' => e = .returned (.tuple #[]) ∧ Put B b (l ++ ordT y) w w' := by
  obtain ⟨m, d⟩ := y
  unfold OrdOk at hy
  dsimp only at hy
  obtain ⟨k, rfl⟩ := Int.eq_ofNat_of_zero_le hy.1
  have hk : k ≤ 9223372036854775807 := by omega
  have ht : ordT ⟨(k : Int), d⟩ = dec k ++ (if d = true then (⟨#[32, 68, 69, 83, 67]⟩ : ByteArray).data.toList else []) := rfl
  rw [ht] at hlen ⊢
  clear hy ht
  rw [List.length_append] at hlen
  have HI := Lib.hid fun w' (hb : Below w.heap.size w w') => itoa_any k hk B w' (he.step hB hb)
  have hD : (⟨(dec k).toArray⟩ : ByteArray).data.toList = dec k := rfl
  have hz := mk_size (dec k)
  generalize (⟨(dec k).toArray⟩ : ByteArray) = D at HI hD hz
  rw [← hD] at hlen ⊢
  rw [bsz] at hlen
  have HP := Lib.hid hp
  have HQ := Lib.hid hq
  have hpl := hp.lt
  have hql := blk_lt hq
  have hN := Lib.hid hlen
  clear hD hz hq hp he hlen hk
  unfold Od.val
  dsimp only
  go_enter Tryz.func136, Tryz.ntmps136
  go_upto_region 1 with fail
  have hX := heap_alloc_new w (.cells #[.int .i64 k, .bool d] 85)
  have hB1 := below1 w (.cells #[.int .i64 k, .bool d] 85)
  have HQ1 := Lib.hid (heap_keep_alloc HQ.out (.cells #[.int .i64 k, .bool d] 85))
  generalize (w.alloc (.cells #[.int .i64 k, .bool d] 85)) = W at hX HQ1 hB1 ⊢
  obtain ⟨x0, x1⟩ := cells2_of hX
  have q0 := ownCell HQ1.out
  have HXX := Lib.hid hX
  have HB1 := Lib.hid hB1
  clear hX hB1
  have hz1 : w.heap.size < W.heap.size := blk_lt HXX.out
  go_cut [8] (fun s wd => Put B b (l ++ D.data.toList) w wd ∧ wd.heap[w.heap.size]? = some (.cells #[.int .i64 k, .bool d] 85 (0, 0)) ∧ wd.heap[q]? = some (.cells #[.pointer (some ⟨b, 0, none⟩)] 109 (0, 0)))
  case first =>
    go_region_held3 (fun w' => w'.cell? ⟨w.heap.size, 0, none⟩ = some (.int .i64 k) ∧ w'.cell? ⟨q, 0, none⟩ = some (.pointer (some ⟨b, 0, none⟩))) (first | assumption | go_keep) (first | (go_at_call 137; refine (HI.out _ HB1.out.drew).mono ?_; rintro e w1 ⟨rfl, hb⟩; have c0 := cell_keep (w := W.drew) x0 hb; have c1 := cell_keep (w := W.drew) q0 hb; have n0 := World.new_ne w1 _ c0; have n1 := World.new_ne w1 _ c1; have HX1 := Lib.hid ((hb.block _ hz1).trans HXX.out); have HQ2 := Lib.hid ((hb.block _ (blk_lt HQ1.out)).trans HQ1.out); have HU1 := Lib.hid ((Put.refl HP.out).below hB ((HB1.out.drew).trans (hb.mono HB1.out.size))); clear hb x0 x1 q0) | (go_at_call 69; refine (put1 B b l D _ _ rfl HU1.out.1 (Nat.le_trans hB HU1.out.size) (put_le hN.out)).mono ?_; rintro e w2 ⟨rfl, hput⟩; have HX2 := Lib.hid (hput.keeps HX1.out (by decide) (by omega)); have HQ3 := Lib.hid (hput.keeps HQ2.out (by decide) hqb); have HU2 := Lib.hid (HU1.out.trans hput); have c0 := (cells2_of HX2.out).1; have c1 := ownCell HQ3.out; clear hput))
    all_goals (go_wp2_with fail; go_meet; exact ⟨HU2.out, HX2.out, HQ3.out⟩)
  case rest =>
    obtain ⟨hput, hX, hQ⟩ := hcut
    obtain ⟨x0, x1⟩ := cells2_of hX
    have q0 := ownCell hQ
    have HV := Lib.hid hput
    clear hput hX hQ HXX HQ1
    cases d
    · go_wp2_with fail
      go_end0
      exact ⟨rfl, by have h := HV.out; simpa using h⟩
    · have HP4 := Lib.hid (put1 B b _ ⟨#[32, 68, 69, 83, 67]⟩ wc.heap.size wc rfl HV.out.1 (Nat.le_trans hB HV.out.size) (by have := hN.out; have e : (⟨#[32, 68, 69, 83, 67]⟩ : ByteArray).size = 5 := rfl; simp only [if_true, List.length_append, bsz, e] at this ⊢; omega))
      go_wp2_with (go_at_call 69; refine HP4.out.mono ?_; rintro e w3 ⟨rfl, hput⟩)
      go_end0
      exact ⟨rfl, by have h := HV.out.trans hput; simpa using h⟩

set_option maxHeartbeats 4000000 in
set_option maxRecDepth 100000 in
theorem putListC_any (ls : List Cl) (hy : ∀ y ∈ ls, colB y = true) (A : Option Addr) (c B b q : Nat) (g : Nat) (l : List UInt8) (sep : ByteArray) (w : World) (hp : Pr B b l w) (hB : B ≤ w.heap.size) (he : Env B w) (hr : RdK KC (fun b => b < B) w A c ls)
    (hq : w.heap[q]? = some (.cells #[.pointer (some ⟨b, 0, none⟩)] 109 (0, 0))) (hqb : q ≠ b) (hk : w.heap[g]? = some kindO) (hgb : g ≠ b) (hlen : l.length + (joinL sep.data.toList (ls.map colT)).length ≤ 140737488355328) :
    Calls Tryz.prog 123 #[.pointer (some ⟨b, 0, none⟩), .slice A ls.length c, .string sep, .func (.func 124) #[] #[.pointer (some ⟨q, 0, none⟩), .pointer (some ⟨g, 0, none⟩)]] w fun e w' => e = .returned (.tuple #[]) ∧ Put B b (l ++ joinL sep.data.toList (ls.map colT)) w w' := by
  have HY := Lib.hid hy
  have HE := Lib.hid he
  have HP := Lib.hid hp
  have HR := Lib.hid hr
  have HQ := Lib.hid hq
  have HL := Lib.hid hlen
  have HK := Lib.hid hk
  have hle : ls.length ≤ 9223372036854775807 := by have := hr.hdr.2; omega
  clear hy he hp hr hq hlen hk
  go_enter Tryz.func123, Tryz.ntmps123
  go_wp2_with fail
  go_loopw [12] (fun i wr => ∃ j : Nat, j ≤ ls.length ∧ i = .int .i64 j ∧ Put B b (l ++ joinL sep.data.toList ((ls.take j).map colT)) w wr) (fun i _ => ls.length - (intOf i).toNat)
  case atStart => exact ⟨0, by omega, rfl, by simpa [joinL] using Put.refl HP.out⟩
  case round =>
    obtain ⟨j, hj, rfl, hput⟩ := hrel
    have HU := Lib.hid hput
    have hBr : B ≤ wr.heap.size := Nat.le_trans hB hput.size
    have hbl := hput.1.lt
    clear hput
    by_cases hlt : j < ls.length
    · have hrr := HR.out.kept KC_ok (w' := wr) fun b' hb' _ => HU.out.2.1.block b' hb'
      obtain ⟨ad, rfl, p0, p1, p2⟩ := hrr.col (j := j) hlt
      have hx : ls[j]? = some ls[j] := List.getElem?_eq_getElem hlt
      have hmem : ls[j] ∈ ls := List.getElem_mem hlt
      generalize ls[j] = y at p0 p1 p2 hx hmem
      have HQ2 := Lib.hid (HU.out.keeps HQ.out (by decide) hqb)
      have hql := blk_lt HQ2.out
      have HK2 := Lib.hid (HU.out.keeps (by have := HK.out; unfold kindO at this; exact this) (by decide) hgb)
      have hgl := blk_lt HK2.out
      have HE2 := Lib.hid (HE.out.below HU.out.2.1)
      have HY2 := Lib.hid (HY.out y hmem)
      have hj2 : joinL sep.data.toList ((ls.take (j + 1)).map colT) = joinL sep.data.toList ((ls.take j).map colT) ++ ((if j = 0 then [] else sep.data.toList) ++ colT y) := by
        rw [List.take_add_one, hx, Option.toList_some, List.map_append, List.map_cons, List.map_nil, joinL_snoc]
        congr 2
        have : ((ls.take j).map colT = []) = (j = 0) := by
          rw [List.map_eq_nil_iff, List.take_eq_nil_iff, eq_iff_iff]
          exact ⟨fun h => h.elim id (fun h => by rw [h] at hlt; cases hlt), Or.inl⟩
        simp only [this]
      have hl3 : (joinL sep.data.toList ((ls.take (j + 1)).map colT)).length ≤ (joinL sep.data.toList (ls.map colT)).length := by
        rw [List.map_take]; exact joinL_take _ _ _
      rw [hj2, List.length_append, List.length_append] at hl3
      have HJ := Lib.hid hj2
      generalize joinL sep.data.toList ((ls.take j).map colT) = js at *
      have hl4 := HL.out
      generalize joinL sep.data.toList (ls.map colT) = jall at *
      clear hrr hj2 hx hmem
      have hc1 := fun (l' : List UInt8) (w' : World) hp' hB' he' hq' hk' hl' => prtable1_any y HY2.out B b q g l' w' hp' hB' he' hq' hqb hk' hl'
      have hpl : Hid (∀ (l' : List UInt8), l'.length ≤ l.length + (js.length + (if j = 0 then ([] : List UInt8) else sep.data.toList).length) → l'.length + (colT y).length ≤ 140737488355328) := Lib.hid fun l' h => by omega
      generalize colT y = ps at *
      clear HY2
      obtain ⟨mm, k, nn⟩ := y
      unfold Cl.val at hc1
      dsimp only at p0 p1 p2 hc1
      have HC := Lib.hid hc1
      clear hc1
      rcases Nat.eq_zero_or_pos j with h0 | hpos
      · have hd : decide ((0 : Int) < (j : Int)) = false := by simp; omega
        have hd2 : decide (0 < j) = false := by simp; omega
        simp only [if_pos h0, List.nil_append, List.length_nil, Nat.add_zero] at HJ hpl hl3
        have HCC := Lib.hid fun (o : Obj) => HC.out (l ++ js) (wr.alloc o) (HU.out.1.alloc o) (by simp; omega) (HE2.out.step hBr (below1 _ o)) (heap_keep_alloc HQ2.out o) ⟨heap_keep_alloc HK2.out o, hgb⟩ (hpl.out _ (by simp))
        have H0 := Lib.hid h0
        clear h0 HC
        go_wp2_with (go_at_call 124; refine (HCC.out _).mono ?_; rintro e w2 ⟨rfl, hput⟩)
        go_roundw
        case rel => exact ⟨j + 1, by omega, by go_num, by rw [HJ.out, ← List.append_assoc]; exact HU.out.trans (Put.ahead hBr (below1 _ _) hput)⟩
        case measure => simp [intOf]; omega
      · have hd : decide ((0 : Int) < (j : Int)) = true := by simp; omega
        have hd2 : decide (0 < j) = true := by simp; omega
        simp only [if_neg (show ¬ j = 0 by omega)] at HJ hpl hl3
        go_upto_region 5 with (go_at_call 69; refine (put1 B b (l ++ js) sep _ _ (by simp) (HU.out.1.alloc _) (by simp; omega) (by rw [List.length_append]; rw [bsz] at hl3; omega)).mono ?_; rintro e w2 ⟨rfl, hput⟩; obtain ⟨x0, x1, x2⟩ := cells3_of (hput.keeps (heap_alloc_new wr _) (by decide) (by omega)); have HV := Lib.hid (Put.ahead hBr (below1 _ _) hput); clear hput)
        have hB3 : B ≤ w2.heap.size := Nat.le_trans hBr HV.out.size
        have HQ3 := Lib.hid (HV.out.keeps HQ2.out (by decide) hqb)
        have HE3 := Lib.hid (HE2.out.below HV.out.2.1)
        have HK3 := Lib.hid (HV.out.keeps HK2.out (by decide) hgb)
        have HCC := Lib.hid (HC.out (l ++ js ++ sep.data.toList) w2 HV.out.1 hB3 HE3.out HQ3.out ⟨HK3.out, hgb⟩ (hpl.out _ (by simp <;> omega)))
        clear HC
        go_wp2_with (go_at_call 124; refine HCC.out.mono ?_; rintro e w3 ⟨rfl, hput⟩)
        go_roundw
        case rel => exact ⟨j + 1, by omega, by go_num, by rw [HJ.out]; have h := HU.out.trans (HV.out.trans hput); simpa using h⟩
        case measure => simp [intOf]; omega
    · have HEnd : Hid (ls.take j = ls) := Lib.hid (List.take_of_length_le (by omega))
      go_wp2
      go_end0
      exact ⟨rfl, by have h := HU.out; rwa [HEnd.out] at h⟩

set_option maxHeartbeats 4000000 in
set_option maxRecDepth 100000 in
theorem putListO_any (ls : List Od) (hy : ∀ y ∈ ls, OrdOk y) (A : Option Addr) (c B b q : Nat) (l : List UInt8) (sep : ByteArray) (w : World) (hp : Pr B b l w) (hB : B ≤ w.heap.size) (he : Env B w) (hr : RdK KO (fun b => b < B) w A c ls)
    (hq : w.heap[q]? = some (.cells #[.pointer (some ⟨b, 0, none⟩)] 109 (0, 0))) (hqb : q ≠ b) (hlen : l.length + (joinL sep.data.toList (ls.map ordT)).length ≤ 140737488355328) :
    Calls Tryz.prog 163 #[.pointer (some ⟨b, 0, none⟩), .slice A ls.length c, .string sep, .func (.func 136) #[] #[.pointer (some ⟨q, 0, none⟩)]] w fun e w' => e = .returned (.tuple #[]) ∧ Put B b (l ++ joinL sep.data.toList (ls.map ordT)) w w' := by
  have HY := Lib.hid hy
  have HE := Lib.hid he
  have HP := Lib.hid hp
  have HR := Lib.hid hr
  have HQ := Lib.hid hq
  have HL := Lib.hid hlen
  have hle : ls.length ≤ 9223372036854775807 := by have := hr.hdr.2; omega
  clear hy he hp hr hq hlen
  go_enter Tryz.func163, Tryz.ntmps163
  go_wp2_with fail
  go_loopw [12] (fun i wr => ∃ j : Nat, j ≤ ls.length ∧ i = .int .i64 j ∧ Put B b (l ++ joinL sep.data.toList ((ls.take j).map ordT)) w wr) (fun i _ => ls.length - (intOf i).toNat)
  case atStart => exact ⟨0, by omega, rfl, by simpa [joinL] using Put.refl HP.out⟩
  case round =>
    obtain ⟨j, hj, rfl, hput⟩ := hrel
    have HU := Lib.hid hput
    have hBr : B ≤ wr.heap.size := Nat.le_trans hB hput.size
    have hbl := hput.1.lt
    clear hput
    by_cases hlt : j < ls.length
    · have hrr := HR.out.kept KO_ok (w' := wr) fun b' hb' _ => HU.out.2.1.block b' hb'
      obtain ⟨ad, rfl, p0, p1⟩ := hrr.ord (j := j) hlt
      have hx : ls[j]? = some ls[j] := List.getElem?_eq_getElem hlt
      have hmem : ls[j] ∈ ls := List.getElem_mem hlt
      generalize ls[j] = y at p0 p1 hx hmem
      have HQ2 := Lib.hid (HU.out.keeps HQ.out (by decide) hqb)
      have hql := blk_lt HQ2.out
      have HE2 := Lib.hid (HE.out.below HU.out.2.1)
      have HY2 := Lib.hid (HY.out y hmem)
      have hj2 : joinL sep.data.toList ((ls.take (j + 1)).map ordT) = joinL sep.data.toList ((ls.take j).map ordT) ++ ((if j = 0 then [] else sep.data.toList) ++ ordT y) := by
        rw [List.take_add_one, hx, Option.toList_some, List.map_append, List.map_cons, List.map_nil, joinL_snoc]
        congr 2
        have : ((ls.take j).map ordT = []) = (j = 0) := by
          rw [List.map_eq_nil_iff, List.take_eq_nil_iff, eq_iff_iff]
          exact ⟨fun h => h.elim id (fun h => by rw [h] at hlt; cases hlt), Or.inl⟩
        simp only [this]
      have hl3 : (joinL sep.data.toList ((ls.take (j + 1)).map ordT)).length ≤ (joinL sep.data.toList (ls.map ordT)).length := by
        rw [List.map_take]; exact joinL_take _ _ _
      rw [hj2, List.length_append, List.length_append] at hl3
      have HJ := Lib.hid hj2
      generalize joinL sep.data.toList ((ls.take j).map ordT) = js at *
      have hl4 := HL.out
      generalize joinL sep.data.toList (ls.map ordT) = jall at *
      clear hrr hj2 hx hmem
      have hc1 := fun (l' : List UInt8) (w' : World) hp' hB' he' hq' hl' => prquery1_any y HY2.out B b q l' w' hp' hB' he' hq' hqb hl'
      have hpl : Hid (∀ (l' : List UInt8), l'.length ≤ l.length + (js.length + (if j = 0 then ([] : List UInt8) else sep.data.toList).length) → l'.length + (ordT y).length ≤ 140737488355328) := Lib.hid fun l' h => by omega
      generalize ordT y = ps at *
      clear HY2
      obtain ⟨k, dd⟩ := y
      unfold Od.val at hc1
      dsimp only at p0 p1 hc1
      have HC := Lib.hid hc1
      clear hc1
      rcases Nat.eq_zero_or_pos j with h0 | hpos
      · have hd : decide ((0 : Int) < (j : Int)) = false := by simp; omega
        have hd2 : decide (0 < j) = false := by simp; omega
        simp only [if_pos h0, List.nil_append, List.length_nil, Nat.add_zero] at HJ hpl hl3
        have HCC := Lib.hid fun (o : Obj) => HC.out (l ++ js) (wr.alloc o) (HU.out.1.alloc o) (by simp; omega) (HE2.out.step hBr (below1 _ o)) (heap_keep_alloc HQ2.out o) (hpl.out _ (by simp))
        have H0 := Lib.hid h0
        clear h0 HC
        go_wp2_with (go_at_call 136; refine (HCC.out _).mono ?_; rintro e w2 ⟨rfl, hput⟩)
        go_roundw
        case rel => exact ⟨j + 1, by omega, by go_num, by rw [HJ.out, ← List.append_assoc]; exact HU.out.trans (Put.ahead hBr (below1 _ _) hput)⟩
        case measure => simp [intOf]; omega
      · have hd : decide ((0 : Int) < (j : Int)) = true := by simp; omega
        have hd2 : decide (0 < j) = true := by simp; omega
        simp only [if_neg (show ¬ j = 0 by omega)] at HJ hpl hl3
        go_upto_region 5 with (go_at_call 69; refine (put1 B b (l ++ js) sep _ _ (by simp) (HU.out.1.alloc _) (by simp; omega) (by rw [List.length_append]; rw [bsz] at hl3; omega)).mono ?_; rintro e w2 ⟨rfl, hput⟩; obtain ⟨x0, x1⟩ := cells2_of (hput.keeps (heap_alloc_new wr _) (by decide) (by omega)); have HV := Lib.hid (Put.ahead hBr (below1 _ _) hput); clear hput)
        have hB3 : B ≤ w2.heap.size := Nat.le_trans hBr HV.out.size
        have HQ3 := Lib.hid (HV.out.keeps HQ2.out (by decide) hqb)
        have HE3 := Lib.hid (HE2.out.below HV.out.2.1)
        have HCC := Lib.hid (HC.out (l ++ js ++ sep.data.toList) w2 HV.out.1 hB3 HE3.out HQ3.out (hpl.out _ (by simp <;> omega)))
        clear HC
        go_wp2_with (go_at_call 136; refine HCC.out.mono ?_; rintro e w3 ⟨rfl, hput⟩)
        go_roundw
        case rel => exact ⟨j + 1, by omega, by go_num, by rw [HJ.out]; have h := HU.out.trans (HV.out.trans hput); simpa using h⟩
        case measure => simp [intOf]; omega
    · have HEnd : Hid (ls.take j = ls) := Lib.hid (List.take_of_length_le (by omega))
      go_wp2
      go_end0
      exact ⟨rfl, by have h := HU.out; rwa [HEnd.out] at h⟩

set_option maxHeartbeats 2000000 in
set_option maxRecDepth 100000 in
theorem putPartO_any (ls : List Od) (hy : ∀ y ∈ ls, OrdOk y) (A : Option Addr) (c B b q : Nat) (l : List UInt8) (ws : ByteArray) (w : World) (hp : Pr B b l w) (hB : B ≤ w.heap.size) (he : Env B w) (hr : RdK KO (fun b => b < B) w A c ls)
    (hq : w.heap[q]? = some (.cells #[.pointer (some ⟨b, 0, none⟩)] 109 (0, 0))) (hqb : q ≠ b) (hlen : l.length + (partL ws.data.toList ordT ls).length ≤ 140737488355328) :
    Calls Tryz.prog 135 #[.pointer (some ⟨b, 0, none⟩), .string ws, .slice A ls.length c, .func (.func 136) #[] #[.pointer (some ⟨q, 0, none⟩)]] w fun e w' => e = .returned (.tuple #[]) ∧ Put B b (l ++ partL ws.data.toList ordT ls) w w' := by
  rcases Nat.eq_zero_or_pos ls.length with h0 | h0
  · have hd : decide ((0 : Int) < (ls.length : Int)) = false := by rw [h0]; rfl
    have hd2 : decide (0 < ls.length) = false := by rw [h0]; rfl
    have HP := Lib.hid (part_off (ws := ws.data.toList) (f := ordT) h0)
    have HR := Lib.hid (Put.refl hp)
    clear hy he hr hq hlen h0 hp
    go_enter Tryz.func135, Tryz.ntmps135
    go_wp2_with fail
    go_end0
    exact ⟨rfl, by rw [HP.out, List.append_nil]; exact HR.out⟩
  · have hpt := part_on (ws := ws.data.toList) (f := ordT) h0
    rw [hpt] at hlen
    have hd : decide ((0 : Int) < (ls.length : Int)) = true := by simp; omega
    have hd2 : decide (0 < ls.length) = true := by simp; omega
    have HPT := Lib.hid hpt
    simp only [List.length_append] at hlen
    have HPW := Lib.hid (put1 B b l ws w.heap.size w rfl hp hB (by rw [bsz] at hlen; omega))
    have HC := Lib.hid fun (w' : World) (hput : Put B b (l ++ ws.data.toList) w w') => putListO_any ls hy A c B b q (l ++ ws.data.toList) ⟨#[44, 32]⟩ w' hput.1 (Nat.le_trans hB hput.size) (he.below hput.2.1) (hr.kept KO_ok fun b' hb' _ => hput.2.1.block b' hb') (hput.keeps hq (by decide) hqb) hqb (by rw [List.length_append]; exact Nat.le_trans (Nat.le_of_eq (Nat.add_assoc _ _ _)) hlen)
    clear hy he hr hq hlen h0 hp hpt
    go_enter Tryz.func135, Tryz.ntmps135
    go_upto_region 2 with (go_at_call 69; refine HPW.out.mono ?_; rintro e w2 ⟨rfl, hput⟩)
    have HV := Lib.hid hput
    clear hput
    go_wp2_with (go_at_call 163; refine (HC.out _ HV.out).mono ?_; rintro e w3 ⟨rfl, hput⟩)
    go_end0
    refine ⟨rfl, ?_⟩
    have h := HV.out.trans hput
    rw [HPT.out, ← List.append_assoc]
    exact h

end Go.Proofs.YtnbgnofbeklmkaaGreatDoor
