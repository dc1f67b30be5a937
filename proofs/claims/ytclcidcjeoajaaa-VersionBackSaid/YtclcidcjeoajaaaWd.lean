/- VersionBack of the statements answers true for any chain: the walk. Conditions: a chain that is read in memory, within reach. -/
import Derived.Test.YtclcidcjeoajaaaWc
namespace Go.Proofs.Ytclcidcjeoajaaa
open Go.RowKit Go.Sort
set_option linter.unusedSimpArgs false
set_option linter.unusedVariables false

set_option maxHeartbeats 4000000 in
theorem kBack_no (A : Option Addr) (n c : Nat) (l : List Ver) (m x : Int) (g : Bool) (s : ByteArray) (hs : s.size ≤ 140737488355328) (w : World) (hr : Rd w A n c l) (hn : n * 40 ≤ 140737488355328) (hok : ¬ Ok l ∨ (Ok l ∧ wrE l m x g s ≠ 0)) :
    Calls Try.prog 5 #[.slice A n c, .int .i64 m, .int .i64 x, .bool g, .string s] w fun e w' => e = .returned (.bool true) ∧ Below w.heap.size w w' := by
  have HA := Lib.hid fun W => alive_any W
  have HO := Lib.hid fun W (hb : Below w.heap.size w W) => of_any A n c l W (hr.below hb) hn
  obtain ⟨E, h0, hw⟩ : ∃ E : Int, E ≠ 0 ∧ ∀ A n c W (hr : Rd W A n c l), Calls Try.prog 12 #[.slice A n c, .int .i64 m, .int .i64 x, .bool g, .string s] W (PairX [] E W) := by
    rcases hok with h | ⟨h, h1⟩
    · exact ⟨9, by decide, fun A n c W hr => write_bad A n c l m x g s W hr h⟩
    · exact ⟨_, h1, fun A n c W hr => write_no A n c l m x g s W hs hr h _ rfl h1⟩
  have HW := Lib.hid hw
  have HN := Lib.hid fun k W => num_any k W
  have hE : (E != 0) = true := by simpa using h0
  clear hr hok hw h0
  go_enter Try.func5, Try.ntmps5
  go_wp2_with (first | (go_at_call 6; (with_reducible refine (HA.out _).mono ?_); rintro e w1 ⟨rfl, hb⟩; have HB1 := Lib.hid hb; clear hb) | (go_at_call 8; (with_reducible refine (HO.out _ HB1.out).mono ?_); rintro e w2 ⟨A2, n2, c2, rfl, hr2, hb⟩; have HR2 := Lib.hid hr2; have HB2 := Lib.hid (thn HB1.out hb); clear hr2 hb) | (go_at_call 12; (with_reducible refine (HW.out _ _ _ _ HR2.out).mono ?_); rintro e w3 ⟨A3, n3, c3, rfl, hr3, hb⟩; have HB3 := Lib.hid (thn HB2.out hb); obtain rfl : n3 = 0 := hr3.len.symm; clear hr3 hb) | (go_at_call 9; (with_reducible refine (HN.out _ _).mono ?_); rintro e w7 ⟨rfl, rfl⟩))
  go_ret
  exact ⟨rfl, HB3.out⟩
set_option maxRecDepth 100000 in
set_option maxHeartbeats 8000000 in
theorem kBack_ok (A : Option Addr) (n c : Nat) (l : List Ver) (m x : Int) (g : Bool) (s : ByteArray) (hs : s.size ≤ 140737488355328) (w : World) (hr : Rd w A n c l) (hn : n * 40 ≤ 140737488355328) (hok : Ok l) (h0 : wrE l m x g s = 0) :
    Calls Try.prog 5 #[.slice A n c, .int .i64 m, .int .i64 x, .bool g, .string s] w fun e w' => e = .returned (.bool true) ∧ Below w.heap.size w w' := by
  have HA := Lib.hid fun W => alive_any W
  have HO := Lib.hid fun W (hb : Below w.heap.size w W) => of_any A n c l W (hr.below hb) hn
  have HW := Lib.hid fun A n c W (hr : Rd W A n c l) => write_ok A n c l m x g s W hs hr hok h0
  have hx := wr_ok (hs := hs) hok h0
  have hu : ∀ A n c W (hr : Rd W A n c (new x g s hs :: wout x l)), Calls Try.prog 13 #[.slice A n c, .int .i64 x] W (PairX (wout x l) 0 W) := fun A n c W hr => by
    have := undo_ok A n c _ x W hr hx
    rwa [undo_new] at this
  have HU := Lib.hid hu
  have HN := Lib.hid fun k W => num_any k W
  have HL := Lib.hid fun A B n c d L W (ha : Rd W A n c L) (hb : Rd W B n d L) => alike_eq A B n c d L W ha hb
  have hY : (∃ v r, l = v :: r ∧ v.t = 0 ∧ wout x l = l.drop 1) ∨ ((∀ v ∈ l.head?, v.t ≠ 0) ∧ wout x l = l) := by
    cases l with
    | nil => exact .inr ⟨by simp, back_done (by simp)⟩
    | cons v r =>
      by_cases hv : v.t = 0
      · exact .inl ⟨v, r, rfl, hv, back_open h0 v r rfl hv⟩
      · exact .inr ⟨by simpa using hv, back_done (by simpa using hv)⟩
  have HY := Lib.hid hY
  have HR := Lib.hid hr
  have hcap := hr.cap
  have hle := hr.le
  clear hr hok h0 hx hu hY
  generalize new x g s hs :: wout x l = X at *
  generalize wout x l = Y at *
  go_enter Try.func5, Try.ntmps5
  go_upto_region 7 with (first | (go_at_call 6; (with_reducible refine (HA.out _).mono ?_); rintro e w1 ⟨rfl, hb⟩; have HB1 := Lib.hid hb; clear hb) | (go_at_call 8; (with_reducible refine (HO.out _ HB1.out).mono ?_); rintro e w2 ⟨A2, n2, c2, rfl, hr2, hb⟩; have HR2 := Lib.hid hr2; have HB2 := Lib.hid (thn HB1.out hb); clear hr2 hb) | (go_at_call 12; (with_reducible refine (HW.out _ _ _ _ HR2.out).mono ?_); rintro e w3 ⟨A3, n3, c3, rfl, hr3, hb⟩; have HR3 := Lib.hid hr3; have HB3 := Lib.hid (thn HB2.out hb); clear hr3 hb) | (go_at_call 13; (with_reducible refine (HU.out _ _ _ _ HR3.out).mono ?_); rintro e w5 ⟨A5, n5, c5, rfl, hr5, hb⟩; have HY5 := Lib.hid hr5; have HB5 := Lib.hid (thn HB3.out hb); clear hr5 hb) | (go_at_call 9; (with_reducible refine (HN.out _ _).mono ?_); rintro e w7 ⟨rfl, rfl⟩))
  clear HR2 HR3 HB1 HB2 HB3 HW HU HO HA
  have HRL := Lib.hid (HR.out.below HB5.out)
  rcases HY.out with ⟨v, r, rfl, hv, rfl⟩ | ⟨hz, rfl⟩
  · obtain ⟨ad, rfl, hln, c0, _, _, _⟩ := HRL.out.head
    rw [hv] at c0
    have hp1 : 0 < n := by omega
    have hp2 : (0 : Int) < (n : Int) := by omega
    have hp3 : 1 ≤ n := hp1
    have hfr : ∀ w, (Instr.slice 22 (.slice (some ad) n c) (some (.int .i64 1)) none none).run Try.prog w = .ok (.slice (cutA (some ad) c 1) (n - 1) (c - 1)) w := fun w => fromR (some ad) n c 1 hp3 w
    have HD := Lib.hid (HRL.out.drop hp3)
    obtain rfl : n5 = n - 1 := by rw [← HY5.out.len]; exact HD.out.len
    clear hln hv
    go_wp2_with (first | (go_at_call 9; (with_reducible refine (HN.out _ _).mono ?_); rintro e w7 ⟨rfl, rfl⟩) | (go_at_call 15; (with_reducible refine (HL.out _ _ _ _ _ _ _ HY5.out HD.out).mono ?_); rintro e w8 ⟨rfl, hb⟩; have HB8 := Lib.hid (thn HB5.out hb); clear hb))
    go_ret
    exact ⟨rfl, HB8.out⟩
  · obtain rfl : n5 = n := by rw [← HY5.out.len]; exact HRL.out.len
    cases Y with
    | nil =>
      have e := HRL.out.len
      simp at e
      subst e
      go_wp2_with (first | (go_at_call 9; (with_reducible refine (HN.out _ _).mono ?_); rintro e w7 ⟨rfl, rfl⟩) | (go_at_call 15; (with_reducible refine (HL.out _ _ _ _ _ _ _ HY5.out HRL.out).mono ?_); rintro e w8 ⟨rfl, hb⟩; have HB8 := Lib.hid (thn HB5.out hb); clear hb))
      go_ret
      exact ⟨rfl, HB8.out⟩
    | cons v r =>
      have hv : v.t ≠ 0 := hz v (by simp)
      have hv' : (v.t == 0) = false := by simpa using hv
      obtain ⟨ad, rfl, hln, c0, _, _, _⟩ := HRL.out.head
      have hp1 : 0 < n5 := by omega
      have hp2 : (0 : Int) < (n5 : Int) := by omega
      clear hln hv hz
      go_wp2_with (first | (go_at_call 9; (with_reducible refine (HN.out _ _).mono ?_); rintro e w7 ⟨rfl, rfl⟩) | (go_at_call 15; (with_reducible refine (HL.out _ _ _ _ _ _ _ HY5.out HRL.out).mono ?_); rintro e w8 ⟨rfl, hb⟩; have HB8 := Lib.hid (thn HB5.out hb); clear hb))
      go_ret
      exact ⟨rfl, HB8.out⟩
theorem kBack_any (A : Option Addr) (n c : Nat) (l : List Ver) (m x : Int) (g : Bool) (s : ByteArray) (hs : s.size ≤ 140737488355328) (w : World) (hr : Rd w A n c l) (hn : n * 40 ≤ 140737488355328) :
    Calls Try.prog 5 #[.slice A n c, .int .i64 m, .int .i64 x, .bool g, .string s] w fun e w' => e = .returned (.bool true) ∧ Below w.heap.size w w' := by
  by_cases hok : Ok l
  · by_cases h0 : wrE l m x g s = 0
    · exact kBack_ok A n c l m x g s hs w hr hn hok h0
    · exact kBack_no A n c l m x g s hs w hr hn (.inr ⟨hok, h0⟩)
  · exact kBack_no A n c l m x g s hs w hr hn (.inl hok)
end Go.Proofs.Ytclcidcjeoajaaa
