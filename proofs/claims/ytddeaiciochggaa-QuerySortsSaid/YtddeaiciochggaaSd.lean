/- slices.rotateCmpFunc over a list of lists in memory of the call's own: the walk. Conditions: two parts that are not empty. -/
import Derived.Test.YtddeaiciochggaaSc
namespace Go.Proofs.Ytddeaiciochggaa.So
open Go.RowKit
set_option linter.unusedSimpArgs false
set_option linter.unusedVariables false

theorem swapRange_i (ai bi ni : Int) (g N c : Nat) (P X M Y S D E : List Sl) (F : Value) (w0 w : World) (hD : Dt w g D) (hG : Gr g w0 w) (e1 : D = P ++ X ++ M ++ Y ++ S) (e2 : E = P ++ Y ++ M ++ X ++ S) (ha : ai = P.length) (hx : ni = X.length) (hb : bi = ai + ni + M.length) (hy : ni = Y.length)
    (hN : N = D.length) (hm : N ≤ 140737488355328) :
    Calls Try.prog 118 #[.slice (some ⟨g, 0, none⟩) N c, .int .i64 ai, .int .i64 bi, .int .i64 ni, F] w fun e w' => e = .returned (.tuple #[]) ∧ Dt w' g E ∧ Gr g w0 w' := by
  subst e1 e2 ha hx
  obtain rfl : bi = ((P.length + X.length + M.length : Nat) : Int) := by omega
  exact swapRange_any g P.length _ X.length c P X M Y S F w0 w hD hG rfl rfl rfl (by omega) N hN hm
theorem turn_1 {P X Y S : List Sl} (j : Nat) : P ++ Y ++ X ++ S = (P ++ Y) ++ X.take j ++ X.drop j ++ S := by
  rw [List.append_assoc (P ++ Y) (X.take j), List.take_append_drop]
theorem turn_2 {P X Y S : List Sl} (j : Nat) : P ++ Y ++ X ++ S = P ++ Y.take j ++ Y.drop j ++ (X ++ S) := by
  rw [List.append_assoc P (Y.take j), List.take_append_drop, List.append_assoc (P ++ Y)]
/-- Where the turning of two parts stands. -/
structure Ro (D E P X Y S : List Sl) (m i j : Nat) : Prop where
  now : D = P ++ X ++ Y ++ S
  aim : E = P ++ Y ++ X ++ S
  pre : P.length + i = m
  x : X.length = i
  y : Y.length = j
  i0 : 0 < i
  j0 : 0 < j
theorem Ro.len {D E P X Y S : List Sl} {m i j : Nat} (h : Ro D E P X Y S m i j) : D.length = E.length := by rw [h.now, h.aim]; simp; omega
set_option maxHeartbeats 4000000 in
theorem rotate_any (g a m b c N : Nat) (P A B S D E : List Sl) (F : Value) (w0 w : World) (hD : Dt w g D) (hG : Gr g w0 w) (e1 : D = P ++ A ++ B ++ S) (e2 : E = P ++ B ++ A ++ S) (ha : a = P.length) (hA : m = a + A.length) (hB : b = m + B.length) (a0 : 0 < A.length) (b0 : 0 < B.length)
    (hN : N = E.length) (hm : N ≤ 140737488355328) :
    Calls Try.prog 110 #[.slice (some ⟨g, 0, none⟩) N c, .int .i64 a, .int .i64 m, .int .i64 b, F] w fun e w' => e = .returned (.tuple #[]) ∧ Dt w' g E ∧ Gr g w0 w' := by
  have hR : Ro D E P A B S m A.length B.length := ⟨e1, e2, by omega, rfl, rfl, a0, b0⟩
  have hbN : b ≤ N := by rw [hN, e2]; simp; omega
  have HR := Lib.hid hR
  have HD := Lib.hid hD
  have HG := Lib.hid hG
  have HN := Lib.hid hN
  have hi : (m : Int) - (a : Int) = (A.length : Int) := by omega
  have hj : (b : Int) - (m : Int) = (B.length : Int) := by omega
  have hmb : m ≤ b := by omega
  have ham : a ≤ m := by omega
  have HI := Lib.hid hi
  have HJ := Lib.hid hj
  clear hR e1 e2 ha hA hB hN hD hG hi hj a0 b0
  go_enter Try.func110, Try.ntmps110
  go_wp2
  go_loopw [10, 11] (fun x y wr => ∃ (i j : Nat) (D1 P1 X1 Y1 S1 : List Sl), x = .int .i64 i ∧ y = .int .i64 j ∧ i ≤ N ∧ j ≤ N ∧ Ro D1 E P1 X1 Y1 S1 m i j ∧ Dt wr g D1 ∧ Gr g w0 wr) (fun x y _ => (intOf x).toNat + (intOf y).toNat)
  case atStart => exact ⟨_, _, D, P, A, B, S, by rw [HI.out], by rw [HJ.out], by have := HI.out; omega, by have := HJ.out; omega, HR.out, HD.out, HG.out⟩
  case round =>
    obtain ⟨i, j, D1, P1, X1, Y1, S1, rfl, rfl, hiN, hjN, hR, hD, hG⟩ := hrel
    have HR1 := Lib.hid hR
    have HD1 := Lib.hid hD
    have HG1 := Lib.hid hG
    have i0 := hR.i0
    have j0 := hR.j0
    have him : i ≤ m := by have := hR.pre; omega
    have hP1 : ((m : Int) - (i : Int)) = (P1.length : Int) := by have := hR.pre; omega
    have hlen : N = D1.length := by rw [hR.len]; exact HN.out
    have HP1 := Lib.hid hP1
    have HL := Lib.hid hlen
    clear hR hD hG hP1 hlen
    by_cases hne : i = j
    · subst hne
      go_wp2_with (go_at_call 118; (with_reducible refine (swapRange_i _ _ _ g N c P1 X1 [] Y1 S1 D1 E F w0 wr HD1.out HG1.out (by rw [HR1.out.now]; simp) (by rw [HR1.out.aim]; simp) HP1.out (by rw [HR1.out.x]) (by simp; try omega) (by rw [HR1.out.y]) HL.out hm).mono ?_); rintro e w2 ⟨rfl, hd, hg⟩)
      go_end0
      exact ⟨rfl, hd, hg⟩
    · by_cases hgt : j < i
      · have h2 : D1 = P1 ++ X1.take j ++ X1.drop j ++ Y1 ++ S1 := by rw [HR1.out.now, List.append_assoc P1 (X1.take j), List.take_append_drop]
        have HD2 := Lib.hid h2
        have hl1 : ((X1.take j).length : Int) = j := by have := HR1.out.x; simp; omega
        have hl2 : ((X1.drop j).length : Int) = (i : Int) - j := by have := HR1.out.x; simp; omega
        have hl3 : (Y1.length : Int) = j := by have := HR1.out.y; omega
        have H1 := Lib.hid hl1
        have H2 := Lib.hid hl2
        have H3 := Lib.hid hl3
        clear h2 hl1 hl2 hl3
        go_wp2_with (go_at_call 118; (with_reducible refine (swapRange_i _ _ _ g N c P1 (X1.take j) (X1.drop j) Y1 S1 D1 _ F w0 wr HD1.out HG1.out HD2.out rfl HP1.out H1.out.symm (by rw [H2.out]; omega) H3.out.symm HL.out hm).mono ?_); rintro e w2 ⟨rfl, hd, hg⟩; have HD3 := Lib.hid hd; have HG3 := Lib.hid hg; clear hd hg)
        go_roundw
        case rel => exact ⟨i - j, j, _, P1 ++ Y1, X1.drop j, X1.take j, S1, by first | rfl | (congr 1; omega), rfl, by omega, by omega, ⟨rfl, HR1.out.aim.trans (turn_1 j), by have := HR1.out.pre; have := HR1.out.y; simp; omega, by have := HR1.out.x; simp; omega, by have := HR1.out.x; simp; omega, by omega, j0⟩, HD3.out, HG3.out⟩
        case measure => simp [intOf]; omega
      · have hlt : i < j := by omega
        have h2 : D1 = P1 ++ X1 ++ Y1.take (j - i) ++ Y1.drop (j - i) ++ S1 := by rw [HR1.out.now, List.append_assoc (P1 ++ X1) (Y1.take _), List.take_append_drop]
        have HD2 := Lib.hid h2
        have hl1 : (X1.length : Int) = i := by have := HR1.out.x; omega
        have hl2 : ((Y1.take (j - i)).length : Int) = (j : Int) - i := by have := HR1.out.y; simp; omega
        have hl3 : ((Y1.drop (j - i)).length : Int) = i := by have := HR1.out.y; simp; omega
        have H1 := Lib.hid hl1
        have H2 := Lib.hid hl2
        have H3 := Lib.hid hl3
        clear h2 hl1 hl2 hl3
        go_wp2_with (go_at_call 118; (with_reducible refine (swapRange_i _ _ _ g N c P1 X1 (Y1.take (j - i)) (Y1.drop (j - i)) S1 D1 _ F w0 wr HD1.out HG1.out HD2.out rfl HP1.out H1.out.symm (by rw [H2.out]; omega) H3.out.symm HL.out hm).mono ?_); rintro e w2 ⟨rfl, hd, hg⟩; have HD3 := Lib.hid hd; have HG3 := Lib.hid hg; clear hd hg)
        go_roundw
        case rel => exact ⟨i, j - i, _, P1, Y1.drop (j - i), Y1.take (j - i), X1 ++ S1, rfl, by first | rfl | (congr 1; omega), by omega, by omega, ⟨by simp, HR1.out.aim.trans (turn_2 (j - i)), by have := HR1.out.pre; omega, by have := HR1.out.y; simp; omega, by have := HR1.out.y; simp; omega, i0, by omega⟩, HD3.out, HG3.out⟩
        case measure => simp [intOf]; omega
end Go.Proofs.Ytddeaiciochggaa.So
