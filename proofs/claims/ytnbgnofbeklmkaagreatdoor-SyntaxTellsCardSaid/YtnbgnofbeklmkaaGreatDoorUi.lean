/- What PrintExpr answers, the program's and the reference's: the walks. Conditions: an expression that is read in memory; the tables that strconv and strings read, as they are laid. -/
import Derived.Test.YtnbgnofbeklmkaaGreatDoorUh
import Derived.Test.YtnbgnofbeklmkaaGreatDoorUg
import Derived.Test.YtnbgnofbeklmkaaGreatDoorTm
import Derived.Test.YtnbgnofbeklmkaaGreatDoorTl
namespace Go.Proofs.YtnbgnofbeklmkaaGreatDoor
open Go.RowKit
set_option linter.unusedSimpArgs false
set_option linter.unusedVariables false

theorem len1 {α : Type} {l : List α} (h : l.length = 1) : ∃ y, l = [y] := by
  match l, h with
  | [y], _ => exact ⟨y, rfl⟩
theorem len2 {α : Type} {l : List α} (h : l.length = 2) : ∃ y z, l = [y, z] := by
  match l, h with
  | [y, z], _ => exact ⟨y, z, rfl⟩
theorem rprintedX_any {n : Nat} (hE : ∀ y : Ar n, okP n y = true → RefOk n y) (x : ExN (Ar n)) (hx : okX x = true) (a : Option Addr) (cc : Nat) (w : World) (hr : RdE w n a cc x.l) (hlen : (prX x).length ≤ 9600) :
    Calls Tryz.prog 36 #[x.val a cc] w fun e w' => e = .returned (.string ⟨(prX x).toArray⟩) ∧ Below w.heap.size w w' := by
  unfold okX at hx
  rw [Bool.and_eq_true, List.all_eq_true] at hx
  obtain ⟨hpart, hall⟩ := hx
  obtain ⟨⟨h0, h1⟩, hargs, _⟩ := part_op hpart
  unfold partB at hpart
  rw [Bool.and_eq_true] at hpart
  have hpart := hpart.2
  obtain ⟨o, ho⟩ := Int.eq_ofNat_of_zero_le h0
  unfold prX prL at hlen ⊢
  by_cases e0 : x.op = 0
  · rw [if_pos e0] at hpart hlen ⊢
    simp only [Bool.and_eq_true] at hpart
    exact rprinted_lit x e0 hpart.2 a cc w
  by_cases e1 : x.op = 1
  · rw [if_neg e0, if_pos e1] at hlen hpart ⊢
    simp only [Bool.and_eq_true] at hpart
    refine rprinted_col x e1 ?_ (nameB_len hpart.2) a cc w
    rcases Bool.or_eq_true_iff.1 hpart.1.2 with h | h
    · rw [emp_len h]; omega
    · exact nameB_len h
  · rw [if_neg e0, if_neg e1] at hlen ⊢
    rw [ho, Int.toNat_natCast] at hlen ⊢
    by_cases e18 : o = 18
    · subst e18
      have hl : x.l = [] := by
        rw [ho] at hargs
        have : x.l.length = 0 := by unfold argsI at hargs; simp at hargs; omega
        exact List.eq_nil_of_length_eq_zero this
      exact rprinted_all x ho hl a cc w
    by_cases eb : 4 ≤ o ∧ o ≤ 15
    · have hl : x.l.length = 2 := by
        rw [ho] at hargs
        unfold argsI at hargs
        rw [if_neg (by omega), if_neg (by omega), if_neg (by omega)] at hargs
        omega
      obtain ⟨y, z, hl⟩ := len2 hl
      have hy := hE y (hall y (by rw [hl]; simp))
      have hz := hE z (hall z (by rw [hl]; simp))
      refine rprinted_bin x o (by omega) ho y z hl hy hz a cc w hr ?_ ?_
      · rw [hl] at hlen
        simp only [List.map_cons, List.map_nil, joinL, List.length_append] at hlen
        omega
      · rw [hl] at hlen
        simp only [List.map_cons, List.map_nil, joinL, List.length_append] at hlen
        omega
    · have hl : x.l.length = 1 := by
        rw [ho] at hargs
        unfold argsI at hargs
        rw [if_neg (by omega), if_neg (by omega), if_pos (by omega)] at hargs
        omega
      obtain ⟨y, hl⟩ := len1 hl
      have hy := hE y (hall y (by rw [hl]; simp))
      refine rprinted_un x o (by omega) ho y hl hy a cc w hr ?_
      rw [hl] at hlen
      simp only [List.map_cons, List.map_nil, joinL, List.length_append] at hlen
      omega
theorem rprinted_any : ∀ (n : Nat) (y : Ar n), okP n y = true → RefOk n y
  | 0, y, _ => Empty.elim y
  | n + 1, y, hy => fun a cc w hr hlen => rprintedX_any (rprinted_any n) y hy a cc w hr hlen

/-- The text that PrintExpr answers. -/
def txX {n : Nat} (x : ExN (Ar n)) : ByteArray := if chkX x = 0 then ⟨(prX x).toArray⟩ else ⟨#[]⟩
theorem txX_ok {n : Nat} {x : ExN (Ar n)} (h : chkX x = 0) : txX x = ⟨(prX x).toArray⟩ := by unfold txX; rw [if_pos h]
theorem txX_no {n : Nat} {x : ExN (Ar n)} (h : chkX x ≠ 0) : txX x = ⟨#[]⟩ := by unfold txX; rw [if_neg h]

theorem prX_ne {n : Nat} {x : ExN (Ar n)} (hx : okX x = true) : prX x ≠ [] := by
  unfold okX at hx
  rw [Bool.and_eq_true] at hx
  obtain ⟨hpart, _⟩ := hx
  obtain ⟨⟨h0, h1⟩, hargs, _⟩ := part_op hpart
  unfold partB at hpart
  rw [Bool.and_eq_true] at hpart
  have hpart := hpart.2
  unfold prX prL
  by_cases e0 : x.op = 0
  · rw [if_pos e0]
    unfold litL
    split
    · simp
    split
    · unfold dec
      rw [decA, if_neg (by simp)]
      have : ∀ (f m : Nat) (acc : List UInt8), acc ≠ [] → decA f m acc ≠ [] := by
        intro f
        induction f with
        | zero => intro m acc h; exact h
        | succ f ih =>
          intro m acc h
          rw [decA]
          split
          · exact h
          · exact ih _ _ (by simp)
      exact this _ _ _ (by simp)
    split
    · split <;> simp
    · simp
  by_cases e1 : x.op = 1
  · rw [if_neg e0, if_pos e1] at hpart ⊢
    simp only [Bool.and_eq_true] at hpart
    have hm : x.m.data.toList ≠ [] := by
      intro e
      have h := hpart.2
      unfold nameB at h
      rw [e] at h
      cases h
    unfold colL
    split
    · exact hm
    · simp
  · rw [if_neg e0, if_neg e1]
    have : ∀ k, k < 23 → 2 ≤ k → (fH k).data.toList ≠ [] := by decide
    have := this x.op.toNat (by omega) (by omega)
    simp [this]
theorem builder_new {B : Nat} {W : World} (hB : B ≤ W.heap.size) : Pr B W.heap.size [] (W.alloc (.cells #[.pointer none, .slice none 0 0] 66)) :=
  .inl ⟨hB, .slice none 0 0, heap_alloc_new W _, World.ownsRowF_nil _ _ _ _, by simp [Value.ownBlock]⟩

set_option maxHeartbeats 2000000 in
set_option maxRecDepth 100000 in
theorem sPrintExpr_any {n : Nat} (x : ExN (Ar n)) (a : Option Addr) (cc : Nat) (w : World) (hr : RdE w n a cc x.l) (he : Env w.heap.size w) :
    Calls Tryz.prog 52 #[x.val a cc] w fun e w' => e = .returned (.tuple #[.string (txX x), .int .i64 (chkX x)]) ∧ Below w.heap.size w w' := by
  have HC := Lib.hid fun w' hb => sCheckExpr_any x a cc w' (RdK.below (KE_ok n) (w := w) hr hb)
  by_cases h : chkX x = 0
  · obtain ⟨hok, hlen⟩ := chk_ok h
    have HR : Hid (RdK (KE n) (fun b => b < w.heap.size) w a cc x.l) := Lib.hid (hr.mono (KE_ok n) fun b _ h => h)
    have HP := Lib.hid fun b w' hp (hb : Below w.heap.size w w') => prexprX_any (prexpr_all n) x hok a cc w.heap.size b [] w' hp hb.size (he.below hb) (HR.out.below (KE_ok n) hb) (by simp; omega)
    have HN := Lib.hid (prX_ne hok)
    rw [txX_ok h, h]
    rw [h] at HC
    clear hok h hr HR
    simp only [List.nil_append] at HP
    generalize prX x = S at *
    have HLn := Lib.hid hlen
    clear hlen
    obtain ⟨op, ⟨k, m, s, hv⟩, t, nm, ls⟩ := x
    unfold ExN.val at HC HP ⊢
    dsimp only at HC HP ⊢
    go_enter Tryz.func52, Tryz.ntmps52
    go_upto_region 5 with (go_at_call 41; refine (HC.out _ (below1 _ _)).mono ?_; rintro e w2 ⟨rfl, hb⟩; obtain ⟨x0, x1, x2, x3, x4, x5, x6⟩ := cells7 (heap1 hb); have HB := Lib.hid (below_of1 hb); have hz2 : w.heap.size < w2.heap.size := (by have := hb.size; simp at this; omega); clear hb)
    have HPr := Lib.hid (builder_new HB.out.size)
    go_upto_region 6 with (go_at_call 75; refine (HP.out _ _ HPr.out (HB.out.alloc HB.out.size _)).mono ?_; rintro e w3 ⟨rfl, hput⟩; have HB3 := Lib.hid ((HB.out.alloc HB.out.size (.cells #[.pointer none, .slice none 0 0] 66)).trans hput.2.1))
    have HS := Lib.hid fun (W : World) => string_any BT_p w.heap.size w2.heap.size S W
    have HQ := Lib.hid hput.1
    clear hput
    go_wp2_with (go_at_call 33; refine (HS.out _ HQ.out HN.out).mono ?_; rintro e w4 ⟨rfl, hb⟩; have HB4 := Lib.hid (HB3.out.trans hb); clear hb)
    go_ret2
    exact ⟨rfl, HB4.out⟩
  · rw [txX_no h]
    have H0 := Lib.hid h
    have hne : (chkX x != 0) = true := by simpa using h
    clear h hr
    generalize chkX x = E at *
    obtain ⟨op, ⟨k, m, s, hv⟩, t, nm, ls⟩ := x
    unfold ExN.val at HC ⊢
    dsimp only at HC ⊢
    go_enter Tryz.func52, Tryz.ntmps52
    go_wp2_with (go_at_call 41; refine (HC.out _ (below1 _ _)).mono ?_; rintro e w2 ⟨rfl, hb⟩; have HB := Lib.hid (below_of1 hb); clear hb)
    go_ret2
    exact ⟨rfl, HB.out⟩
end Go.Proofs.YtnbgnofbeklmkaaGreatDoor
