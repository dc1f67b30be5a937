/- KeycodeOrder answers true for any two lists: the walk. Conditions: numbers of 64 bits. -/
import Derived.Test.YtapichngakcpeaaVj
import Derived.Test.YtapichngakcpeaaWd
namespace Go.Proofs.Ytapichngakcpeaa
open Go.RowKit
set_option linter.unusedSimpArgs false
set_option linter.unusedVariables false

theorem encS_list {l : List Vl} (h : encE l = 0) : (encS l).toList = encL l := by rw [ByteArray.toList_eq]; simp [encS, encT, h]
theorem encS_none {l : List Vl} (h : encE l ≠ 0) : encS l = ⟨#[]⟩ := by simp [encS, encT, h]
theorem order_1 {l m : List Vl} (hl : numsL l) (hm : numsL m) (h : encE l = 0) (h' : encE m = 0) : Op.bytesLess (encS l).toList (encS m).toList = decide (cmpV l m < 0) := by
  rw [encS_list h, encS_list h', cmpL_less, cmp_encL l m (encE_all hl h).1 (encE_all hm h').1]
theorem order_2 {l m : List Vl} (hl : numsL l) (hm : numsL m) (h : encE l = 0) (h' : encE m = 0) : ((encS l).toList == (encS m).toList) = sameL l m := by
  rw [encS_list h, encS_list h', Bool.eq_iff_iff, sameL_iff, beq_iff_eq, encL_inj (encE_all hl h).1 (encE_all hm h').1]

set_option maxHeartbeats 4000000 in
set_option maxRecDepth 100000 in
theorem kOrder_any (A B : Option Addr) (n k c d : Nat) (l m : List Vl) (w : World) (hl : n = l.length) (hm : k = m.length) (hn : n ≤ maxLen) (hk : k ≤ maxLen) (rl : RdL w w.heap.size A l) (rm : RdL w w.heap.size B m) (nl : numsL l) (nm : numsL m) :
    Calls Try.prog 4 #[.slice A n c, .slice B k d] w fun e w' => e = .returned (.bool true) ∧ Below w.heap.size w w' := by
  have c1 : ∀ W, Below w.heap.size w W → Calls Try.prog 10 #[.slice A n c] W fun e w' => e = .returned (.tuple #[.string (encS l), .int .i64 (encE l)]) ∧ Below W.heap.size W w' := fun W hb => encode_S A c n l W hl ((rl.below hb).more hb.size) nl
  have c2 : ∀ W, Below w.heap.size w W → Calls Try.prog 10 #[.slice B k d] W fun e w' => e = .returned (.tuple #[.string (encS m), .int .i64 (encE m)]) ∧ Below W.heap.size W w' := fun W hb => encode_S B d k m W hm ((rm.below hb).more hb.size) nm
  have c3 : ∀ W, Below w.heap.size w W → Calls Try.prog 14 #[.slice A n c, .slice B k d] W fun e w' => e = .returned (.bool (decide (cmpV l m < 0))) ∧ Below W.heap.size W w' := fun W hb => less_any A B n k c d l m W hl hm hn hk ((rl.below hb).more hb.size) ((rm.below hb).more hb.size)
  have c4 : ∀ W, Below w.heap.size w W → Calls Try.prog 13 #[.slice A n c, .slice B k d] W fun e w' => e = .returned (.bool (sameL l m)) ∧ Below W.heap.size W w' := fun W hb => same_any A B n k c d l m W hl hm hn ((rl.below hb).more hb.size) ((rm.below hb).more hb.size)
  have o1 := @order_1 l m nl nm
  have o2 := @order_2 l m nl nm
  have s1 := @encS_none l
  have s2 := @encS_none m
  clear rl rm hl hm nl nm
  generalize encS l = S at *
  generalize encS m = T at *
  generalize encE l = e at *
  generalize encE m = f at *
  generalize decide (cmpV l m < 0) = L at *
  generalize sameL l m = M at *
  by_cases he : e = 0
  · subst he
    by_cases hf : f = 0
    · subst hf
      have O1 := o1 rfl rfl
      have O2 := o2 rfl rfl
      clear s1 s2 o1 o2
      go_enter Try.func4, Try.ntmps4
      go_upto_region 4 with (first | (go_at_call 9; refine (alive_any _).mono ?_; rintro e w1 ⟨rfl, h⟩; have H1 := Lib.hid h; clear h) | (go_at_call 10; refine (c1 _ H1.out).mono ?_; rintro e w2 ⟨rfl, h⟩; have H2 := Lib.hid (H1.out.trans (h.mono H1.out.size)); clear h))
      go_wp2_with (first | (go_at_call 10; refine (c2 _ H2.out).mono ?_; rintro e w3 ⟨rfl, h⟩; have H3 := Lib.hid (H2.out.trans (h.mono H2.out.size)); clear h) | (go_at_call 11; refine (num_any _ _).mono ?_; rintro e w4 ⟨rfl, rfl⟩) | (go_at_call 14; refine (c3 _ H3.out).mono ?_; rintro e w5 ⟨rfl, h⟩; have H5 := Lib.hid (H3.out.trans (h.mono H3.out.size)); clear h) | (go_at_call 13; refine (c4 _ H5.out).mono ?_; rintro e w6 ⟨rfl, h⟩; have H6 := Lib.hid (H5.out.trans (h.mono H5.out.size)); clear h))
      go_ret
      exact ⟨by simp, H6.out⟩
    · have t2 := s2 hf
      have hf1 : (f == 0) = false := by simpa using hf
      have hf2 : (f != 0) = true := by simpa using hf
      subst t2
      clear s1 s2 o1 o2 hf
      go_enter Try.func4, Try.ntmps4
      go_upto_region 4 with (first | (go_at_call 9; refine (alive_any _).mono ?_; rintro e w1 ⟨rfl, h⟩; have H1 := Lib.hid h; clear h) | (go_at_call 10; refine (c1 _ H1.out).mono ?_; rintro e w2 ⟨rfl, h⟩; have H2 := Lib.hid (H1.out.trans (h.mono H1.out.size)); clear h))
      go_wp2_with (first | (go_at_call 10; refine (c2 _ H2.out).mono ?_; rintro e w3 ⟨rfl, h⟩; have H3 := Lib.hid (H2.out.trans (h.mono H2.out.size)); clear h) | (go_at_call 11; refine (num_any _ _).mono ?_; rintro e w4 ⟨rfl, rfl⟩))
      all_goals go_ret
      all_goals exact ⟨by simp, H3.out⟩
  · have t1 := s1 he
    have he1 : (e == 0) = false := by simpa using he
    have he2 : (e != 0) = true := by simpa using he
    subst t1
    clear s1 s2 o1 o2 he
    go_enter Try.func4, Try.ntmps4
    go_upto_region 4 with (first | (go_at_call 9; refine (alive_any _).mono ?_; rintro e w1 ⟨rfl, h⟩; have H1 := Lib.hid h; clear h) | (go_at_call 10; refine (c1 _ H1.out).mono ?_; rintro e w2 ⟨rfl, h⟩; have H2 := Lib.hid (H1.out.trans (h.mono H1.out.size)); clear h))
    go_wp2_with (first | (go_at_call 10; refine (c2 _ H2.out).mono ?_; rintro e w3 ⟨rfl, h⟩; have H3 := Lib.hid (H2.out.trans (h.mono H2.out.size)); clear h) | (go_at_call 11; refine (num_any _ _).mono ?_; rintro e w4 ⟨rfl, rfl⟩))
    all_goals go_ret
    all_goals exact ⟨by simp, H3.out⟩

end Go.Proofs.Ytapichngakcpeaa
