/- KeycodeJoins answers true for any two lists: the walk. Conditions: numbers of 64 bits. -/
import Derived.Test.YtapichngakcpeaaVh
import Derived.Laws.AppendOwnNone
namespace Go.Proofs.Ytapichngakcpeaa
open Go.RowKit
set_option linter.unusedSimpArgs false
set_option linter.unusedVariables false

theorem RdL.take {w : World} {B : Nat} {A : Option Addr} {l : List Vl} (h : RdL w B A l) (k : Nat) : RdL w B A (l.take k) := fun hne => by
  obtain ⟨ad, e, hlt, hc⟩ := h (by rintro rfl; simp at hne)
  refine ⟨ad, e, hlt, fun j v hj => hc j v ?_⟩
  rw [List.getElem?_take] at hj
  split at hj
  · exact hj
  · cases hj
theorem numsL_take {l : List Vl} (h : numsL l) (k : Nat) : numsL (l.take k) := fun v hv => h v (List.mem_of_mem_take hv)
theorem numsL_append {l m : List Vl} (h : numsL l) (h' : numsL m) : numsL (l ++ m) := fun v hv => by
  rcases List.mem_append.1 hv with hv | hv
  · exact h v hv
  · exact h' v hv

def encS (l : List Vl) : ByteArray := ⟨(encT l).toArray⟩
/-- The keys of two lists and of both. -/
theorem joins (l m : List Vl) (hl : numsL l) (hm : numsL m) (nl : l.length ≤ 32) (nm : m.length ≤ 32) :
    (encE l = 0 ∧ encE m = 0 ∧ encE (l ++ m) = 0 ∧ encS (l ++ m) = encS l ++ encS m ∧ (encS l).size + (encS m).size ≤ 9223372036854775807) ∨
    ((encE l = 9 ∨ encE l = 0 ∧ encE m = 9) ∧ encE (l ++ m) = 9 ∧ encS (l ++ m) = ⟨#[]⟩) := by
  have e1 : encE l = if l.all okB = true then 0 else 9 := by unfold encE; rw [if_neg (by omega)]
  have e2 : encE m = if m.all okB = true then 0 else 9 := by unfold encE; rw [if_neg (by omega)]
  have e3 : encE (l ++ m) = if (l ++ m).all okB = true then 0 else 9 := by unfold encE; rw [if_neg (by simp; omega)]
  rw [List.all_append] at e3
  cases h1 : l.all okB <;> cases h2 : m.all okB
  · right
    have g : encE (l ++ m) = 9 := by rw [e3, h1, h2]; rfl
    exact ⟨.inl (by rw [e1, h1]; rfl), g, by simp [encS, encT, g]⟩
  · right
    have g : encE (l ++ m) = 9 := by rw [e3, h1, h2]; rfl
    exact ⟨.inl (by rw [e1, h1]; rfl), g, by simp [encS, encT, g]⟩
  · right
    have g : encE (l ++ m) = 9 := by rw [e3, h1, h2]; rfl
    exact ⟨.inr ⟨by rw [e1, h1]; rfl, by rw [e2, h2]; rfl⟩, g, by simp [encS, encT, g]⟩
  · left
    have a : encE l = 0 := by rw [e1, h1]; rfl
    have b : encE m = 0 := by rw [e2, h2]; rfl
    have g : encE (l ++ m) = 0 := by rw [e3, h1, h2]; rfl
    refine ⟨a, b, g, ?_, ?_⟩
    · simp only [encS, encT, a, b, g, encL_append, if_true]
      exact congrArg ByteArray.mk (by simp)
    · have h3 := encL_len (encE_all hl a).1
      have h4 := encL_len (encE_all hm b).1
      have s1 : (encS l).size = (encL l).length := by simp [encS, encT, a, ByteArray.size]
      have s2 : (encS m).size = (encL m).length := by simp [encS, encT, b, ByteArray.size]
      omega

theorem encode_S (A : Option Addr) (c n : Nat) (l : List Vl) (w : World) (hlen : n = l.length) (hr : RdL w w.heap.size A l) (hn : numsL l) :
    Calls Try.prog 10 #[.slice A n c] w fun e w' => e = .returned (.tuple #[.string (encS l), .int .i64 (encE l)]) ∧ Below w.heap.size w w' := encode_any A c n l w hlen hr hn
theorem one_list (l : List Vl) (hn : numsL l) (nl : l.length ≤ 32) : (encE l = 0 ∧ (encS l).size ≤ 9223372036854775807) ∨ (encE l = 9 ∧ encS l = ⟨#[]⟩) := by
  have e1 : encE l = if l.all okB = true then 0 else 9 := by unfold encE; rw [if_neg (by omega)]
  cases h1 : l.all okB
  · have g : encE l = 9 := by rw [e1, h1]; rfl
    exact .inr ⟨g, by simp [encS, encT, g]⟩
  · have g : encE l = 0 := by rw [e1, h1]; rfl
    refine .inl ⟨g, ?_⟩
    have h3 := encL_len (encE_all hn g).1
    have s1 : (encS l).size = (encL l).length := by simp [encS, encT, g, ByteArray.size]
    omega

set_option maxHeartbeats 4000000 in
set_option maxRecDepth 100000 in
theorem kJoins_nil (A : Option Addr) (n c : Nat) (L : List Vl) (w : World) (hL : n = L.length) (rL : RdL w w.heap.size A L) (nL : numsL L)
    (zA : A = none → n = 0 ∧ c = 0) (hn : n ≤ c) (hc : c ≤ maxLen) :
    Calls Try.prog 5 #[.slice A n c, .slice none 0 0] w fun e w' => e = .returned (.bool true) ∧ Below w.heap.size w w' := by
  obtain ⟨i0, hi, hz0, hz1, hz2⟩ := info_parts Try.info36
  have n1 : (min (n : Int) 32).toNat = (L.take 32).length := by rw [List.length_take]; omega
  have n2 : (L.take 32).length ≤ 32 := List.length_take_le _ _
  have J := Lib.hid (one_list (L.take 32) (numsL_take nL _) n2)
  have RL := Lib.hid (rL.take 32)
  have nL := Lib.hid (numsL_take nL 32)
  have zA' : Hid (A = none → (L.take 32).length = 0 ∧ c = 0) := fun h => by have := zA h; rw [List.length_take]; omega
  have N1 := Lib.hid n1
  have hM : ∀ w, Calls Try.prog 10 #[.slice none 0 0] w fun e w' => e = .returned (.tuple #[.string ⟨#[]⟩, .int .i64 0]) ∧ Below w.heap.size w w' := fun w => encode_any none 0 0 [] w rfl (fun h => absurd rfl h) (by intro v hv; cases hv)
  clear zA rL hL n1
  unfold maxLen at hc
  go_enter Try.func5, Try.ntmps5
  go_upto_region 3 with (go_at_call 9; refine (alive_any _).mono ?_; rintro e w1 ⟨rfl, h⟩; have HA := Lib.hid h; clear h)
  go_region
  rw [N1.out]
  have HA := Lib.hid HA.out.drew
  generalize w1.drew = w2 at HA ⊢
  clear N1
  generalize L.take 32 = l at *
  go_upto_region 5 with (go_at_call 10; refine (encode_S _ _ _ l _ rfl ((RL.out.below HA.out).more HA.out.size) nL.out).mono ?_; rintro e w3 ⟨rfl, h⟩; have HA3 := Lib.hid (HA.out.trans (h.mono HA.out.size)); clear h)
  go_upto_region 6 with (go_at_call 10; refine (hM _).mono ?_; rintro e w4 ⟨rfl, h⟩; have HA4 := Lib.hid (HA3.out.trans (h.mono HA3.out.size)); clear h)
  go_wp2_with fail
  go_at_call 15
  refine (copy_any _ _ _ l _ rfl ((RL.out.below HA4.out).more HA4.out.size) zA'.out (by omega)).mono ?_
  rintro e w5 ⟨v5, rfl, h5, h⟩
  have HA5 := Lib.hid (HA4.out.trans (h.mono HA4.out.size))
  obtain ⟨A6, c6, rfl, h6, R6, z6, _, _⟩ := RdL_own h5
  have HO := Lib.hid h5
  have R6 := Lib.hid R6
  clear h h5 h6 z6
  have hX : ∀ w', Below w5.heap.size w5 w' → Calls Try.prog 10 #[.slice A6 l.length c6] w' fun e w'' => e = .returned (.tuple #[.string (encS l), .int .i64 (encE l)]) ∧ Below w'.heap.size w' w'' := fun w' hb =>
    encode_any _ _ _ l _ rfl ((R6.out.below hb).more hb.size) nL.out
  go_upto_region 7 with (first | (at_builtin; refine wpList_append_own_none rfl (.tmp 35) (.tmp 36) 22 rfl _ 36 i0 3 Try.underlying22 hi _ _ _ rfl HO.out rfl ?_) | (go_at_call 10; refine (hX _ (Below.refl _ _)).mono ?_; rintro e w7 ⟨rfl, h⟩; have HA7 := Lib.hid (HA5.out.trans (h.mono HA5.out.size)); clear h))
  clear hX
  rcases J.out with ⟨j1, j5⟩ | ⟨j1, j4⟩
  · have hadd := fun w => run_string_add_sum (P := Try.prog) w (encS l) ⟨#[]⟩ (by have : (ByteArray.mk #[]).size = 0 := rfl; omega)
    have he : encS l ++ ⟨#[]⟩ = encS l := by
      generalize encS l = S
      obtain ⟨⟨x⟩⟩ := S
      exact congrArg ByteArray.mk (by simp)
    rw [j1]
    clear J j1 j5
    have HE := Lib.hid he
    clear he
    generalize encS l = S at *
    go_wp2_with (go_at_call 11; refine (num_any _ _).mono ?_; rintro e w8 ⟨rfl, rfl⟩)
    go_ret
    exact ⟨ret_bool (by first | rfl | (rw [HE.out]; simp)), HA7.out⟩
  · rw [j1, j4]
    clear J j1 j4
    go_wp2_with (go_at_call 11; refine (num_any _ _).mono ?_; rintro e w8 ⟨rfl, rfl⟩)
    go_ret
    exact ⟨rfl, HA7.out⟩

set_option maxHeartbeats 4000000 in
set_option maxRecDepth 100000 in
theorem kJoins_some (A : Option Addr) (B : Addr) (n m c d : Nat) (L M : List Vl) (w : World) (hL : n = L.length) (hM : m = M.length) (rL : RdL w w.heap.size A L) (rM : RdL w w.heap.size (some B) M) (nL : numsL L) (nM : numsL M)
    (zA : A = none → n = 0 ∧ c = 0) (hn : n ≤ c) (hm : m ≤ d) (hc : c ≤ maxLen) (hd : d ≤ maxLen) :
    Calls Try.prog 5 #[.slice A n c, .slice (some B) m d] w fun e w' => e = .returned (.bool true) ∧ Below w.heap.size w w' := by
  obtain ⟨i0, hi, hz0, hz1, hz2⟩ := info_parts Try.info36
  have n1 : (min (n : Int) 32).toNat = (L.take 32).length := by rw [List.length_take]; omega
  have m1 : (min (m : Int) 32).toNat = (M.take 32).length := by rw [List.length_take]; omega
  have n2 : (L.take 32).length ≤ 32 := List.length_take_le _ _
  have m2 : (M.take 32).length ≤ 32 := List.length_take_le _ _
  have J := Lib.hid (joins (L.take 32) (M.take 32) (numsL_take nL _) (numsL_take nM _) n2 m2)
  have RL := Lib.hid (rL.take 32)
  have RM := Lib.hid (rM.take 32)
  have nL := Lib.hid (numsL_take nL 32)
  have nM := Lib.hid (numsL_take nM 32)
  have zA' : Hid (A = none → (L.take 32).length = 0 ∧ c = 0) := fun h => by have := zA h; rw [List.length_take]; omega
  have N1 := Lib.hid n1
  have M1 := Lib.hid m1
  clear zA rL rM hL hM n1 m1
  unfold maxLen at hc hd
  go_enter Try.func5, Try.ntmps5
  go_upto_region 3 with (go_at_call 9; refine (alive_any _).mono ?_; rintro e w1 ⟨rfl, h⟩; have HA := Lib.hid h; clear h)
  go_region
  rw [N1.out, M1.out]
  have HA := Lib.hid HA.out.drew
  generalize w1.drew = w2 at HA ⊢
  clear N1 M1
  generalize L.take 32 = l at *
  generalize M.take 32 = m' at *
  go_upto_region 5 with (go_at_call 10; refine (encode_S _ _ _ l _ rfl ((RL.out.below HA.out).more HA.out.size) nL.out).mono ?_; rintro e w3 ⟨rfl, h⟩; have HA3 := Lib.hid (HA.out.trans (h.mono HA.out.size)); clear h)
  go_upto_region 6 with (go_at_call 10; refine (encode_S _ _ _ m' _ rfl ((RM.out.below HA3.out).more HA3.out.size) nM.out).mono ?_; rintro e w4 ⟨rfl, h⟩; have HA4 := Lib.hid (HA3.out.trans (h.mono HA3.out.size)); clear h)
  go_wp2_with fail
  go_at_call 15
  refine (copy_any _ _ _ l _ rfl ((RL.out.below HA4.out).more HA4.out.size) zA'.out (by omega)).mono ?_
  rintro e w5 ⟨v5, rfl, h5, h⟩
  have HO := Lib.hid h5
  have hz5 : w4.heap.size ≤ w5.heap.size := h.size
  have HA5 := Lib.hid (HA4.out.trans (h.mono HA4.out.size))
  have RM5 := Lib.hid (RM.out.below HA5.out)
  clear h5 h
  go_wp2_with (at_builtin; refine wpList_append_own_at _ rfl (.tmp 35) (.tmp 36) 22 rfl w4.heap.size 36 i0 (.agg #[.int .i64 0, .int .i64 0, .string ⟨#[]⟩]) 3 32 Try.underlying22 hi hz0 hz1 hz2 rfl (by decide) v5 l.length (vals l) rfl HO.out B m'.length d (vals m') rfl (vals_len m') RM5.out.news (vals_one m') ?c3 ?c4 ?c5 ?_)
  case c3 => unfold maxLen; omega
  case c4 => omega
  case c5 => omega
  intro v6 w6 hown6 hg6 _ _
  have HA6 := Lib.hid (HA5.out.grown hg6 HA5.out.size fun k hk => Nat.le_trans HA4.out.size (HO.out.lt k hk).1)
  rw [← vals_append] at hown6
  obtain ⟨A6, c6, rfl, h6, R6, z6, _, _⟩ := RdL_own hown6
  have h6' := Lib.hid h6
  have R6 := Lib.hid R6
  have NX := Lib.hid (numsL_append nL.out nM.out)
  clear hown6 hg6 h6 z6
  go_upto_region 7 with (go_at_call 10; refine (encode_S _ _ _ (l ++ m') _ h6'.out R6.out NX.out).mono ?_; rintro e w7 ⟨rfl, h⟩; have HA7 := Lib.hid (HA6.out.trans (h.mono HA6.out.size)); clear h)
  rcases J.out with ⟨j1, j2, j3, j4, j5⟩ | ⟨j12, j3, j4⟩
  · have hadd := fun w => run_string_add_sum (P := Try.prog) w (encS l) (encS m') j5
    rw [j1, j2, j3, j4]
    clear J j1 j2 j3 j4 j5
    generalize encS l = S at *
    generalize encS m' = T at *
    go_wp2_with (go_at_call 11; refine (num_any _ _).mono ?_; rintro e w8 ⟨rfl, rfl⟩)
    go_ret
    exact ⟨by simp, HA7.out⟩
  · rcases j12 with j1 | ⟨j1, j2⟩
    · rw [j1, j3, j4]
      clear J j1 j3 j4
      go_wp2_with (go_at_call 11; refine (num_any _ _).mono ?_; rintro e w8 ⟨rfl, rfl⟩)
      go_ret
      exact ⟨rfl, HA7.out⟩
    · rw [j1, j2, j3, j4]
      clear J j1 j2 j3 j4
      go_wp2_with (go_at_call 11; refine (num_any _ _).mono ?_; rintro e w8 ⟨rfl, rfl⟩)
      go_ret
      exact ⟨rfl, HA7.out⟩

theorem kJoins_any (A B : Option Addr) (n m c d : Nat) (L M : List Vl) (w : World) (hL : n = L.length) (hM : m = M.length) (rL : RdL w w.heap.size A L) (rM : RdL w w.heap.size B M) (nL : numsL L) (nM : numsL M)
    (zA : A = none → n = 0 ∧ c = 0) (zB : B = none → m = 0 ∧ d = 0) (hn : n ≤ c) (hm : m ≤ d) (hc : c ≤ maxLen) (hd : d ≤ maxLen) :
    Calls Try.prog 5 #[.slice A n c, .slice B m d] w fun e w' => e = .returned (.bool true) ∧ Below w.heap.size w w' := by
  rcases B with _ | ad
  · obtain ⟨rfl, rfl⟩ := zB rfl
    exact kJoins_nil A n c L w hL rL nL zA hn hc
  · exact kJoins_some A ad n m c d L M w hL hM rL rM nL nM zA hn hm hc hd

end Go.Proofs.Ytapichngakcpeaa
