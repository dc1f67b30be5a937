/- VersionFirst of the statements answers true for any chain: the walk. Conditions: a chain that is read in memory, within reach. -/
import Derived.Test.YtclcidcjeoajaaaWa
namespace Go.Proofs.Ytclcidcjeoajaaa
open Go.RowKit Go.Sort
set_option linter.unusedSimpArgs false
set_option linter.unusedVariables false

/-- What Write answers of a chain that may be: some chain, and its error. -/
def SomeX (E : Int) (w : World) (e : Ending) (w' : World) : Prop := ∃ L, PairX L E w e w'
theorem write_some (A : Option Addr) (n c : Nat) (l : List Ver) (m x : Int) (g : Bool) (s : ByteArray) (w : World) (hs : s.size ≤ 140737488355328) (hr : Rd w A n c l) (h : Ok l) :
    Calls Try.prog 12 #[.slice A n c, .int .i64 m, .int .i64 x, .bool g, .string s] w (SomeX (wrE l m x g s) w) := by
  by_cases hE : wrE l m x g s = 0
  · rw [hE]
    exact (write_ok A n c l m x g s w hs hr h hE).mono fun e w' k => ⟨_, k⟩
  · exact (write_no A n c l m x g s w hs hr h _ rfl hE).mono fun e w' k => ⟨_, k⟩
/-- What Commit answers of a chain that may be, whose first version is open. -/
def ComX (m a b t : Int) (s : ByteArray) (E : Int) (w : World) (e : Ending) (w' : World) : Prop := ∃ L, PairX L E w e w' ∧ (E = 0 → m < t → Ok L ∧ wrE L m b false s = 95)
theorem commit_some (A : Option Addr) (n c : Nat) (r : List Ver) (m a b t : Int) (s : ByteArray) (hs : s.size ≤ 140737488355328) (w : World) (hr : Rd w A n c (new a false s hs :: r)) (h : Ok (new a false s hs :: r)) (hb : txB b = true) (hf : fitB false s = true) :
    Calls Try.prog 14 #[.slice A n c, .int .i64 a, .int .i64 t] w (ComX m a b t s (cmE (new a false s hs :: r) a t) w) := by
  by_cases hE : cmE (new a false s hs :: r) a t = 0
  · obtain ⟨h1, h2⟩ := com_ok h hE
    have hk := commit_ok A n c _ a t w hr h hE
    rw [hE]
    exact hk.mono fun e w' k => ⟨_, k, fun _ hm => ⟨h1, com_conf h2 hm hb hf⟩⟩
  · exact (commit_no A n c _ a t w hr h _ rfl hE).mono fun e w' k => ⟨_, k, fun e0 => absurd e0 hE⟩
set_option maxHeartbeats 4000000 in
theorem kFirst_same (A : Option Addr) (n c : Nat) (m a : Int) (s : ByteArray) (w : World) :
    Calls Try.prog 4 #[.slice A n c, .int .i64 m, .int .i64 a, .int .i64 a, .string s] w fun e w' => e = .returned (.bool true) ∧ Below w.heap.size w w' := by
  have HA := Lib.hid fun W => alive_any W
  go_enter Try.func4, Try.ntmps4
  go_upto_region 2 with (go_at_call 6; (with_reducible refine (HA.out _).mono ?_); rintro e w1 ⟨rfl, hb⟩; have HB1 := Lib.hid hb; clear hb)
  go_wp2_with (go_at_call 6; (with_reducible refine (HA.out _).mono ?_); rintro e w2 ⟨rfl, hb⟩; have HB2 := Lib.hid (thn HB1.out hb); clear hb)
  go_ret
  exact ⟨rfl, HB2.out⟩
set_option maxHeartbeats 4000000 in
/-- The first Write is refused. -/
theorem kFirst_no (A : Option Addr) (n c : Nat) (l : List Ver) (m a b : Int) (hab : a ≠ b) (s : ByteArray) (hs : s.size ≤ 140737488355328) (w : World) (hr : Rd w A n c l) (hn : n * 40 ≤ 140737488355328) (hok : ¬ Ok l ∨ (Ok l ∧ wrE l m a false s ≠ 0)) :
    Calls Try.prog 4 #[.slice A n c, .int .i64 m, .int .i64 a, .int .i64 b, .string s] w fun e w' => e = .returned (.bool true) ∧ Below w.heap.size w w' := by
  have HA := Lib.hid fun W => alive_any W
  have HO := Lib.hid fun W (hb : Below w.heap.size w W) => of_any A n c l W (hr.below hb) hn
  obtain ⟨E, h0, hw⟩ : ∃ E : Int, E ≠ 0 ∧ ∀ A n c W (hr : Rd W A n c l), Calls Try.prog 12 #[.slice A n c, .int .i64 m, .int .i64 a, .bool false, .string s] W (PairX [] E W) := by
    rcases hok with h | ⟨h, h1⟩
    · exact ⟨9, by decide, fun A n c W hr => write_bad A n c l m a false s W hr h⟩
    · exact ⟨_, h1, fun A n c W hr => write_no A n c l m a false s W hs hr h _ rfl h1⟩
  have HW := Lib.hid hw
  have HN := Lib.hid fun k W => num_any k W
  have hne : (a == b) = false := by simpa using hab
  have hE : (E != 0) = true := by simpa using h0
  clear hr hok hw hab h0
  go_enter Try.func4, Try.ntmps4
  go_wp2_with (first | (go_at_call 6; (with_reducible refine (HA.out _).mono ?_); rintro e w1 ⟨rfl, hb⟩; have HB1 := Lib.hid hb; clear hb) | (go_at_call 8; (with_reducible refine (HO.out _ HB1.out).mono ?_); rintro e w2 ⟨A2, n2, c2, rfl, hr2, hb⟩; have HR2 := Lib.hid hr2; have HB2 := Lib.hid (thn HB1.out hb); clear hr2 hb) | (go_at_call 12; (with_reducible refine (HW.out _ _ _ _ HR2.out).mono ?_); rintro e w3 ⟨A3, n3, c3, rfl, hr3, hb⟩; have HB3 := Lib.hid (thn HB2.out hb); obtain rfl : n3 = 0 := hr3.len.symm; clear hr3 hb) | (go_at_call 9; (with_reducible refine (HN.out _ _).mono ?_); rintro e w7 ⟨rfl, rfl⟩))
  go_ret
  exact ⟨rfl, HB3.out⟩
set_option maxHeartbeats 4000000 in
/-- The second one may not write at all. -/
theorem kFirst_range (A : Option Addr) (n c : Nat) (l : List Ver) (m a b : Int) (hab : a ≠ b) (s : ByteArray) (hs : s.size ≤ 140737488355328) (w : World) (hr : Rd w A n c l) (hn : n * 40 ≤ 140737488355328) (hok : Ok l) (h0 : wrE l m a false s = 0) (hb : txB b = false) :
    Calls Try.prog 4 #[.slice A n c, .int .i64 m, .int .i64 a, .int .i64 b, .string s] w fun e w' => e = .returned (.bool true) ∧ Below w.heap.size w w' := by
  have HA := Lib.hid fun W => alive_any W
  have HO := Lib.hid fun W (hb : Below w.heap.size w W) => of_any A n c l W (hr.below hb) hn
  have HW := Lib.hid fun A n c W (hr : Rd W A n c l) => write_ok A n c l m a false s W hs hr hok h0
  have hx := wr_ok (hs := hs) hok h0
  have HW2 := Lib.hid fun A n c W (hr : Rd W A n c (new a false s hs :: wout a l)) => write_no A n c _ m b false s W hs hr hx 4 (range_bad hb) (by decide)
  have HN := Lib.hid fun k W => num_any k W
  have hne : (a == b) = false := by simpa using hab
  have hbb : b < 1 ∨ 1099511627776 < b := by simp [txB] at hb; omega
  clear hr hok h0 hx hab hb
  generalize new a false s hs :: wout a l = X at *
  rcases hbb with hb | hb
  · go_enter Try.func4, Try.ntmps4
    go_upto_region 6 with (first | (go_at_call 6; (with_reducible refine (HA.out _).mono ?_); rintro e w1 ⟨rfl, hb⟩; have HB1 := Lib.hid hb; clear hb) | (go_at_call 8; (with_reducible refine (HO.out _ HB1.out).mono ?_); rintro e w2 ⟨A2, n2, c2, rfl, hr2, hb⟩; have HR2 := Lib.hid hr2; have HB2 := Lib.hid (thn HB1.out hb); clear hr2 hb) | (go_at_call 12; (with_reducible refine (HW.out _ _ _ _ HR2.out).mono ?_); rintro e w3 ⟨A3, n3, c3, rfl, hr3, hb⟩; have HR3 := Lib.hid hr3; have HB3 := Lib.hid (thn HB2.out hb); clear hr3 hb) | (go_at_call 9; (with_reducible refine (HN.out _ _).mono ?_); rintro e w7 ⟨rfl, rfl⟩))
    go_wp2_with (first | (go_at_call 12; (with_reducible refine (HW2.out _ _ _ _ HR3.out).mono ?_); rintro e w4 ⟨A4, n4, c4, rfl, hr4, hb⟩; have HB4 := Lib.hid (thn HB3.out hb); clear hr4 hb) | (go_at_call 9; (with_reducible refine (HN.out _ _).mono ?_); rintro e w7 ⟨rfl, rfl⟩))
    go_ret
    exact ⟨rfl, HB4.out⟩
  · have hb' : ¬ b < 1 := by omega
    go_enter Try.func4, Try.ntmps4
    go_upto_region 6 with (first | (go_at_call 6; (with_reducible refine (HA.out _).mono ?_); rintro e w1 ⟨rfl, hb⟩; have HB1 := Lib.hid hb; clear hb) | (go_at_call 8; (with_reducible refine (HO.out _ HB1.out).mono ?_); rintro e w2 ⟨A2, n2, c2, rfl, hr2, hb⟩; have HR2 := Lib.hid hr2; have HB2 := Lib.hid (thn HB1.out hb); clear hr2 hb) | (go_at_call 12; (with_reducible refine (HW.out _ _ _ _ HR2.out).mono ?_); rintro e w3 ⟨A3, n3, c3, rfl, hr3, hb⟩; have HR3 := Lib.hid hr3; have HB3 := Lib.hid (thn HB2.out hb); clear hr3 hb) | (go_at_call 9; (with_reducible refine (HN.out _ _).mono ?_); rintro e w7 ⟨rfl, rfl⟩))
    go_wp2_with (first | (go_at_call 12; (with_reducible refine (HW2.out _ _ _ _ HR3.out).mono ?_); rintro e w4 ⟨A4, n4, c4, rfl, hr4, hb⟩; have HB4 := Lib.hid (thn HB3.out hb); clear hr4 hb) | (go_at_call 9; (with_reducible refine (HN.out _ _).mono ?_); rintro e w7 ⟨rfl, rfl⟩))
    go_ret
    exact ⟨rfl, HB4.out⟩
end Go.Proofs.Ytclcidcjeoajaaa
