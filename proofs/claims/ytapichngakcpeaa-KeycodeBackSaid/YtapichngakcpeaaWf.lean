/- KeycodeBack answers true for any list and any text: the walk. Conditions: numbers of 64 bits. -/
import Derived.Test.YtapichngakcpeaaDf
import Derived.Test.YtapichngakcpeaaWe
namespace Go.Proofs.Ytapichngakcpeaa
open Go.RowKit
set_option linter.unusedSimpArgs false
set_option linter.unusedVariables false

theorem nums_of {l : List Vl} (h : okL l) : numsL l := fun v hv => (h v hv).2
theorem encS_of {s : ByteArray} {m : List Vl} (h : decD s.data.toList = .ok m) : encE m = 0 ∧ encS m = s ∧ numsL m ∧ m.length ≤ 64 := by
  obtain ⟨h1, h2, h3⟩ := decD_ok h
  have he := encE_yes h3 h2
  refine ⟨he, ?_, nums_of h2, h3⟩
  unfold encS encT
  rw [if_pos he, h1]
theorem decS_of {l : List Vl} (hn : numsL l) (h : encE l = 0) : decD (encS l).data.toList = .ok l := by
  obtain ⟨h1, h2⟩ := encE_all hn h
  have e : (encS l).data.toList = encL l := by simp [encS, encT, h]
  rw [e]
  exact decD_enc h1 h2
theorem encS_size (l : List Vl) (hn : numsL l) : (encS l).size ≤ maxLen := by
  have h0 : (encS l).size = (encT l).length := by simp [encS, ByteArray.size]
  rw [h0]
  unfold encT
  split
  · rename_i h
    obtain ⟨h1, h2⟩ := encE_all hn h
    have := encL_len h1
    unfold maxLen; omega
  · unfold maxLen; simp
/-- What Decode answers where the text is a key. -/
theorem decode_list (s : ByteArray) (m : List Vl) (w : World) (hs : s.size ≤ maxLen) (h : decD s.data.toList = .ok m) :
    Calls Try.prog 12 #[.string s] w fun e w' => ∃ A n c, e = .returned (.tuple #[.slice A n c, .int .i64 0]) ∧ n = m.length ∧ RdL w' w'.heap.size A m ∧ Below w.heap.size w w' ∧ n ≤ maxLen := by
  refine (decode_any s w hs).mono fun e w' hp => ?_
  rw [h] at hp
  obtain ⟨⟨v, he, ho⟩, hb⟩ := hp
  obtain ⟨A, c, e2, hn, hr, _, h1, h2⟩ := RdL_own ho
  exact ⟨A, m.length, c, by rw [he, e2], rfl, hr, hb, by omega⟩
theorem decode_none (s : ByteArray) (x : Int) (w : World) (hs : s.size ≤ maxLen) (h : decD s.data.toList = .error x) :
    Calls Try.prog 12 #[.string s] w fun e w' => e = .returned (.tuple #[.slice none 0 0, .int .i64 x]) ∧ Below w.heap.size w w' := by
  refine (decode_any s w hs).mono fun e w' hp => ?_
  rw [h] at hp
  exact hp

set_option maxHeartbeats 8000000 in
set_option maxRecDepth 100000 in
theorem kBack_any (A : Option Addr) (n c : Nat) (l : List Vl) (s : ByteArray) (w : World) (hl : n = l.length) (hn : n ≤ maxLen) (rl : RdL w w.heap.size A l) (nl : numsL l) (hs : s.size ≤ maxLen) :
    Calls Try.prog 3 #[.slice A n c, .string s] w fun e w' => e = .returned (.bool true) ∧ Below w.heap.size w w' := by
  have c1 : ∀ W, Below w.heap.size w W → Calls Try.prog 10 #[.slice A n c] W fun e w' => e = .returned (.tuple #[.string (encS l), .int .i64 (encE l)]) ∧ Below W.heap.size W w' := fun W hb => encode_S A c n l W hl ((rl.below hb).more hb.size) nl
  have s0 : ∀ (B : Option Addr) (k d : Nat) W, Below w.heap.size w W → k = l.length → k ≤ maxLen → RdL W W.heap.size B l → Calls Try.prog 13 #[.slice B k d, .slice A n c] W fun e w' => e = .returned (.bool true) ∧ Below W.heap.size W w' := fun B k d W hb hk hm hr => by
    have h := same_any B A k n d c l l W hk hl hm hr ((rl.below hb).more hb.size)
    rw [(sameL_iff l l).2 rfl] at h
    exact h
  have d1 := fun W (h : encE l = 0) => decode_list (encS l) l W (encS_size l nl) (decS_of nl h)
  clear rl nl
  generalize encS l = T at *
  generalize encE l = e at *
  have HL := Lib.hid hl
  have HN := Lib.hid hn
  clear hl hn
  by_cases he : e = 0
  · subst he
    have dL := fun W => d1 W rfl
    clear d1
    cases hd : decD s.data.toList with
    | error x =>
      have hx := lstD_err _ _ _ _ hd
      have x1 : (x == 0) = false := by simpa using hx
      have x2 : (x != 0) = true := by simpa using hx
      have dN := fun W => decode_none s x W hs hd
      clear hd hx
      go_enter Try.func3, Try.ntmps3
      go_upto_region 5 with (first | (go_at_call 9; refine (alive_any _).mono ?_; rintro e w1 ⟨rfl, h⟩; have H1 := Lib.hid h; clear h) | (go_at_call 10; refine (c1 _ H1.out).mono ?_; rintro e w2 ⟨rfl, h⟩; have H2 := Lib.hid (H1.out.trans (h.mono H1.out.size)); clear h) | (go_at_call 11; refine (num_any _ _).mono ?_; rintro e w9 ⟨rfl, rfl⟩))
      go_upto_region 8 with (first | (go_at_call 12; (with_reducible refine (dL _).mono ?_); rintro e w3 ⟨B, k, d, rfl, hk, hr, h, hm⟩; have H3 := Lib.hid (H2.out.trans (h.mono H2.out.size)); have HRr := Lib.hid hr; have HKk := Lib.hid hk; have HMm := Lib.hid hm; clear hr h hk hm) | (go_at_call 13; refine (s0 _ _ _ _ H3.out HKk.out HMm.out HRr.out).mono ?_; rintro e w4 ⟨rfl, h⟩; have H4 := Lib.hid (H3.out.trans (h.mono H3.out.size)); clear h) | (go_at_call 11; refine (num_any _ _).mono ?_; rintro e w9 ⟨rfl, rfl⟩))
      go_wp2_with (first | (go_at_call 12; (with_reducible refine (dN _).mono ?_); rintro e w5 ⟨rfl, h⟩; have H5 := Lib.hid (H4.out.trans (h.mono H4.out.size)); clear h) | (go_at_call 11; refine (num_any _ _).mono ?_; rintro e w9 ⟨rfl, rfl⟩))
      go_ret
      exact ⟨rfl, H5.out⟩
    | ok m =>
      obtain ⟨m1, m2, m3, m4⟩ := encS_of hd
      have dM := fun W => decode_list s m W hs hd
      have c2 : ∀ (B : Option Addr) (k d : Nat) W, k = m.length → RdL W W.heap.size B m → Calls Try.prog 10 #[.slice B k d] W fun e w' => e = .returned (.tuple #[.string s, .int .i64 0]) ∧ Below W.heap.size W w' := fun B k d W hk hr => by
        have h := encode_S B d k m W hk hr m3
        rw [m1, m2] at h
        exact h
      clear hd m1 m2 m3 m4
      go_enter Try.func3, Try.ntmps3
      go_upto_region 5 with (first | (go_at_call 9; refine (alive_any _).mono ?_; rintro e w1 ⟨rfl, h⟩; have H1 := Lib.hid h; clear h) | (go_at_call 10; refine (c1 _ H1.out).mono ?_; rintro e w2 ⟨rfl, h⟩; have H2 := Lib.hid (H1.out.trans (h.mono H1.out.size)); clear h) | (go_at_call 11; refine (num_any _ _).mono ?_; rintro e w9 ⟨rfl, rfl⟩))
      go_upto_region 8 with (first | (go_at_call 12; (with_reducible refine (dL _).mono ?_); rintro e w3 ⟨B, k, d, rfl, hk, hr, h, hm⟩; have H3 := Lib.hid (H2.out.trans (h.mono H2.out.size)); have HRr := Lib.hid hr; have HKk := Lib.hid hk; have HMm := Lib.hid hm; clear hr h hk hm) | (go_at_call 13; refine (s0 _ _ _ _ H3.out HKk.out HMm.out HRr.out).mono ?_; rintro e w4 ⟨rfl, h⟩; have H4 := Lib.hid (H3.out.trans (h.mono H3.out.size)); clear h) | (go_at_call 11; refine (num_any _ _).mono ?_; rintro e w9 ⟨rfl, rfl⟩))
      go_wp2_with (first | (go_at_call 12; (with_reducible refine (dM _).mono ?_); rintro e w5 ⟨B', k', d', rfl, hk', hr', h, hm'⟩; have H5 := Lib.hid (H4.out.trans (h.mono H4.out.size)); have HR5 := Lib.hid hr'; have HK5 := Lib.hid hk'; clear hr' h hk' hm') | (go_at_call 10; (with_reducible refine (c2 _ _ _ _ HK5.out HR5.out).mono ?_); rintro e w6 ⟨rfl, h⟩; have H6 := Lib.hid (H5.out.trans (h.mono H5.out.size)); clear h) | (go_at_call 11; refine (num_any _ _).mono ?_; rintro e w9 ⟨rfl, rfl⟩))
      go_ret
      exact ⟨ret_bool (by simp), H6.out⟩
  · have he1 : (e == 0) = false := by simpa using he
    have he2 : (e != 0) = true := by simpa using he
    clear d1 he
    cases hd : decD s.data.toList with
    | error x =>
      have hx := lstD_err _ _ _ _ hd
      have x1 : (x == 0) = false := by simpa using hx
      have x2 : (x != 0) = true := by simpa using hx
      have dN := fun W => decode_none s x W hs hd
      clear hd hx
      go_enter Try.func3, Try.ntmps3
      go_upto_region 8 with (first | (go_at_call 9; refine (alive_any _).mono ?_; rintro e w1 ⟨rfl, h⟩; have H1 := Lib.hid h; clear h) | (go_at_call 10; refine (c1 _ H1.out).mono ?_; rintro e w2 ⟨rfl, h⟩; have H2 := Lib.hid (H1.out.trans (h.mono H1.out.size)); clear h) | (go_at_call 11; refine (num_any _ _).mono ?_; rintro e w9 ⟨rfl, rfl⟩))
      go_wp2_with (first | (go_at_call 12; (with_reducible refine (dN _).mono ?_); rintro e w5 ⟨rfl, h⟩; have H5 := Lib.hid (H2.out.trans (h.mono H2.out.size)); clear h) | (go_at_call 11; refine (num_any _ _).mono ?_; rintro e w9 ⟨rfl, rfl⟩))
      go_ret
      exact ⟨rfl, H5.out⟩
    | ok m =>
      obtain ⟨m1, m2, m3, m4⟩ := encS_of hd
      have dM := fun W => decode_list s m W hs hd
      have c2 : ∀ (B : Option Addr) (k d : Nat) W, k = m.length → RdL W W.heap.size B m → Calls Try.prog 10 #[.slice B k d] W fun e w' => e = .returned (.tuple #[.string s, .int .i64 0]) ∧ Below W.heap.size W w' := fun B k d W hk hr => by
        have h := encode_S B d k m W hk hr m3
        rw [m1, m2] at h
        exact h
      clear hd m1 m2 m3 m4
      go_enter Try.func3, Try.ntmps3
      go_upto_region 8 with (first | (go_at_call 9; refine (alive_any _).mono ?_; rintro e w1 ⟨rfl, h⟩; have H1 := Lib.hid h; clear h) | (go_at_call 10; refine (c1 _ H1.out).mono ?_; rintro e w2 ⟨rfl, h⟩; have H2 := Lib.hid (H1.out.trans (h.mono H1.out.size)); clear h) | (go_at_call 11; refine (num_any _ _).mono ?_; rintro e w9 ⟨rfl, rfl⟩))
      go_wp2_with (first | (go_at_call 12; (with_reducible refine (dM _).mono ?_); rintro e w5 ⟨B', k', d', rfl, hk', hr', h, hm'⟩; have H5 := Lib.hid (H2.out.trans (h.mono H2.out.size)); have HR5 := Lib.hid hr'; have HK5 := Lib.hid hk'; clear hr' h hk' hm') | (go_at_call 10; (with_reducible refine (c2 _ _ _ _ HK5.out HR5.out).mono ?_); rintro e w6 ⟨rfl, h⟩; have H6 := Lib.hid (H5.out.trans (h.mono H5.out.size)); clear h) | (go_at_call 11; refine (num_any _ _).mono ?_; rintro e w9 ⟨rfl, rfl⟩))
      go_ret
      exact ⟨ret_bool (by simp), H6.out⟩

end Go.Proofs.Ytapichngakcpeaa
