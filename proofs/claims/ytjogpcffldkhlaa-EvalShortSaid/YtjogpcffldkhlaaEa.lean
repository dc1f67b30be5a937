/- What the functions of package value that reckon sums and tell orders answer for any values: the walks. Conditions: numbers of 64 bits. -/
import Derived.Test.YtjogpcffldkhlaaProg
import Derived.WalkKit
import Derived.WalkSpells
import Derived.WalkLawsBesides
import Derived.Deep.QuietTactic
import Derived.BigQuiet
import Derived.Lib.Hide
import Derived.Deep.DeepCutAuto
import Derived.Deep.RegionHeld3
import Derived.RegionTactic
import Derived.Deep.RegionWith

namespace Go.Proofs.Ytjogpcffldkhlaa
open Go.RowKit
set_option linter.unusedSimpArgs false
set_option linter.unusedVariables false

def mayB (k n : Int) (s : ByteArray) : Bool :=
  if k = 0 then decide (n = 0) && s.toList.isEmpty
  else if k = 1 then s.toList.isEmpty
  else if k = 2 then (decide (n = 0) || decide (n = 1)) && s.toList.isEmpty
  else if k = 3 then decide (n = 0) && decide ((s.size : Int) ≤ 64)
  else false
def ordI (a b : Int) : Int := if a < b then -1 else if a = b then 0 else 1
def ordS (s t : ByteArray) : Int := if Op.bytesLess s.toList t.toList = true then -1 else if s.toList = t.toList then 0 else 1
def ordV (k n : Int) (s : ByteArray) (k' n' : Int) (s' : ByteArray) : Int :=
  if k ≠ k' then ordI k k' else if k = 1 ∨ k = 2 then ordI n n' else if k = 3 then ordS s s' else 0
theorem below1 (w : World) (o : Obj) : Below w.heap.size w (w.alloc o) := (Below.refl _ _).alloc (Nat.le_refl _) o
theorem ret_bool {a b : Bool} (h : a = b) : Ending.returned (.bool a) = .returned (.bool b) := by rw [h]
theorem ret_int {k : IntKind} {a b : Int} (h : a = b) : Ending.returned (.int k a) = .returned (.int k b) := by rw [h]
theorem bcell {W w1 : World} (hb : Below W.heap.size W w1) : (∀ b o, b < W.heap.size → w1.cell? ⟨b, o, none⟩ = W.cell? ⟨b, o, none⟩) ∧ (∀ b o, b < W.heap.size → w1.frozen? ⟨b, o, none⟩ = W.frozen? ⟨b, o, none⟩) :=
  ⟨fun b o h => hb.cell (p := ⟨b, o, none⟩) h, fun b o h => hb.frozen (p := ⟨b, o, none⟩) h⟩
theorem below_call {B : Nat} {w W w1 : World} (hb : Below W.heap.size W w1) (hB : B ≤ W.heap.size) (h : Below B w W) : Below B w w1 := h.trans (hb.mono hB)
set_option maxHeartbeats 400000 in
theorem mayBe_any (k n : Int) (s : ByteArray) (w : World) :
    Calls Try.prog 50 #[.agg #[.int .i64 k, .int .i64 n, .string s]] w fun e w' => e = .returned (.bool (mayB k n s)) ∧ Below w.heap.size w w' := by
  go_enter Try.func50, Try.ntmps50
  go_wp2
  all_goals go_ret
  all_goals simp only [beq_iff_eq, beq_eq_false_iff_ne, ne_eq] at *
  all_goals exact ⟨ret_bool (by simp [mayB, *]), below1 _ _⟩
set_option maxHeartbeats 400000 in
theorem cmpI_any (a b : Int) (w : World) :
    Calls Try.prog 20 #[.int .i64 a, .int .i64 b] w fun e w' => e = .returned (.int .i64 (ordI a b)) ∧ w = w' := by
  go_enter Try.func20, Try.ntmps20
  go_wp2
  all_goals go_ret
  all_goals exact ⟨ret_int (by unfold ordI; first | rw [if_pos (by omega)] | rw [if_neg (by omega), if_pos (by omega)] | rw [if_neg (by omega), if_neg (by omega)]), rfl⟩
set_option maxHeartbeats 400000 in
theorem cmpS_any (a b : ByteArray) (w : World) :
    Calls Try.prog 21 #[.string a, .string b] w fun e w' => e = .returned (.int .i64 (ordS a b)) ∧ w = w' := by
  go_enter Try.func21, Try.ntmps21
  go_wp2
  all_goals go_ret
  all_goals simp only [Bool.not_eq_true', Bool.not_eq_false', beq_iff_eq, beq_eq_false_iff_ne, ne_eq] at *
  all_goals refine ⟨ret_int (by grind [ordS]), ?_⟩
  all_goals first | rfl | trivial
set_option maxHeartbeats 400000 in
theorem order_any (k n : Int) (s : ByteArray) (k' n' : Int) (s' : ByteArray) (w : World) :
    Calls Try.prog 9 #[.agg #[.int .i64 k, .int .i64 n, .string s], .agg #[.int .i64 k', .int .i64 n', .string s']] w fun e w' => e = .returned (.int .i64 (ordV k n s k' n' s')) ∧ Below w.heap.size w w' := by
  go_enter Try.func9, Try.ntmps9
  go_wp2_with (first | (go_at_call 20; refine (cmpI_any _ _ _).mono ?_; rintro e w1 ⟨rfl, rfl⟩) | (go_at_call 21; refine (cmpS_any _ _ _).mono ?_; rintro e w1 ⟨rfl, rfl⟩))
  all_goals go_ret
  all_goals simp only [bne_iff_ne, bne_eq_false_iff_eq, beq_iff_eq, beq_eq_false_iff_ne, ne_eq] at *
  all_goals exact ⟨ret_int (by grind [ordV]), (below1 _ _).alloc (by simp) _⟩
def fitB (kind k n : Int) (s : ByteArray) : Bool := mayB k n s && (decide (k = 0) || decide (k = kind))
set_option maxHeartbeats 400000 in
theorem fit2_any (kind k n : Int) (s : ByteArray) (k' n' : Int) (s' : ByteArray) (b : Nat) (w : World) (hb0 : b < w.heap.size)
    (c0 : w.cell? ⟨b, 0, none⟩ = some (.int .i64 k)) (c1 : w.cell? ⟨b, 1, none⟩ = some (.int .i64 n)) (c2 : w.cell? ⟨b, 2, none⟩ = some (.string s))
    (c3 : w.cell? ⟨b, 3, none⟩ = some (.int .i64 k')) (c4 : w.cell? ⟨b, 4, none⟩ = some (.int .i64 n')) (c5 : w.cell? ⟨b, 5, none⟩ = some (.string s')) :
    Calls Try.prog 42 #[.int .i64 kind, .slice (some ⟨b, 0, none⟩) 2 2] w fun e w' => e = .returned (.bool (fitB kind k n s && fitB kind k' n' s')) ∧ Below w.heap.size w w' := by
  go_enter Try.func42, Try.ntmps42
  go_wp2
  refine wp_loop_rounds 3 ?_
  rw [rounds_succ]
  go_wp2_with (go_at_call 50; refine (mayBe_any _ _ _ _).mono ?_; rintro e w1 ⟨rfl, hb⟩; obtain ⟨hc, hf⟩ := bcell hb; have z1 := hb.size; simp only [World.size_alloc] at z1)
  any_goals (rw [rounds_succ]; go_wp2_with (go_at_call 50; refine (mayBe_any _ _ _ _).mono ?_; rintro e w2 ⟨rfl, hb2⟩; obtain ⟨hc2, hf2⟩ := bcell hb2; have z2 := hb2.size; simp only [World.size_alloc] at z2))
  any_goals (rw [rounds_succ]; go_wp2)
  all_goals go_ret
  all_goals refine ⟨ret_bool (by grind [fitB]), ?_⟩
  all_goals (clear hc hf; try clear hc2 hf2)
  all_goals repeat (first | exact Below.refl _ _ | (refine Below.alloc ?_ (by first | omega | (simp; done) | (simp; omega)) _) | (refine below_call hb2 (by first | omega | (simp; done) | (simp; omega)) ?_) | (refine below_call hb (by first | omega | (simp; done) | (simp; omega)) ?_))
set_option maxHeartbeats 400000 in
theorem null2_any (k n : Int) (s : ByteArray) (k' n' : Int) (s' : ByteArray) (b : Nat) (w : World) (hb0 : b < w.heap.size)
    (c0 : w.cell? ⟨b, 0, none⟩ = some (.int .i64 k)) (c1 : w.cell? ⟨b, 1, none⟩ = some (.int .i64 n)) (c2 : w.cell? ⟨b, 2, none⟩ = some (.string s))
    (c3 : w.cell? ⟨b, 3, none⟩ = some (.int .i64 k')) (c4 : w.cell? ⟨b, 4, none⟩ = some (.int .i64 n')) (c5 : w.cell? ⟨b, 5, none⟩ = some (.string s')) :
    Calls Try.prog 43 #[.slice (some ⟨b, 0, none⟩) 2 2] w fun e w' => e = .returned (.bool (decide (k = 0) || decide (k' = 0))) ∧ Below w.heap.size w w' := by
  go_enter Try.func43, Try.ntmps43
  go_wp2
  refine wp_loop_rounds 3 ?_
  rw [rounds_succ]
  go_wp2
  any_goals (rw [rounds_succ]; go_wp2)
  any_goals (rw [rounds_succ]; go_wp2)
  all_goals go_ret
  all_goals refine ⟨ret_bool (by grind), ?_⟩
  all_goals repeat (first | exact Below.refl _ _ | (refine Below.alloc ?_ (by first | omega | (simp; done) | (simp; omega)) _))
theorem cell_last (W : World) (cs : Array Value) (t g o : Nat) (hg : g = W.heap.size) : (W.alloc (.cells cs t)).cell? ⟨g, o, none⟩ = cs[o]? := by
  subst hg; exact World.cell?_alloc_mark W cs t (0, 0) o
theorem fit2_last (kind k n : Int) (s : ByteArray) (k' n' : Int) (s' : ByteArray) (g : Nat) (W : World) (hg : g = W.heap.size) :
    Calls Try.prog 42 #[.int .i64 kind, .slice (some ⟨g, 0, none⟩) 2 2] (W.alloc (.cells #[.int .i64 k, .int .i64 n, .string s, .int .i64 k', .int .i64 n', .string s'] 23)) fun e w' => e = .returned (.bool (fitB kind k n s && fitB kind k' n' s')) ∧ Below W.heap.size W w' :=
  (fit2_any _ _ _ _ _ _ _ g _ (by simp; omega) (cell_last _ _ _ _ _ hg) (cell_last _ _ _ _ _ hg) (cell_last _ _ _ _ _ hg) (cell_last _ _ _ _ _ hg) (cell_last _ _ _ _ _ hg) (cell_last _ _ _ _ _ hg)).mono fun e w' ⟨h1, h2⟩ => ⟨h1, (below1 _ _).trans (h2.mono (by simp))⟩
theorem null2_last (k n : Int) (s : ByteArray) (k' n' : Int) (s' : ByteArray) (g : Nat) (W : World) (hg : g = W.heap.size) :
    Calls Try.prog 43 #[.slice (some ⟨g, 0, none⟩) 2 2] (W.alloc (.cells #[.int .i64 k, .int .i64 n, .string s, .int .i64 k', .int .i64 n', .string s'] 23)) fun e w' => e = .returned (.bool (decide (k = 0) || decide (k' = 0))) ∧ Below W.heap.size W w' :=
  (null2_any _ _ _ _ _ _ g _ (by simp; omega) (cell_last _ _ _ _ _ hg) (cell_last _ _ _ _ _ hg) (cell_last _ _ _ _ _ hg) (cell_last _ _ _ _ _ hg) (cell_last _ _ _ _ _ hg) (cell_last _ _ _ _ _ hg)).mono fun e w' ⟨h1, h2⟩ => ⟨h1, (below1 _ _).trans (h2.mono (by simp))⟩
def inR (x : Int) : Bool := decide (-9223372036854775808 ≤ x) && decide (x ≤ 9223372036854775807)
def tru (op a b : Int) : Int := if op = 4 then a + b else if op = 5 then a - b else if op = 6 then a * b else a.tdiv b
theorem wrap_in {x : Int} (h : inR x = true) : wrap64 x = x := by
  simp [inR] at h
  unfold wrap64; omega
theorem add_B (a b : Int) (ha : inR a = true) (hb : inR b = true) : (decide (a < wrap64 (a + b)) == decide (0 < b)) = inR (a + b) := by
  simp [inR] at ha hb
  rw [Bool.eq_iff_iff]
  simp [inR]
  unfold wrap64
  omega
set_option maxHeartbeats 400000 in
theorem number_any (n : Int) (w : World) :
    Calls Try.prog 41 #[.int .i64 n] w fun e w' => e = .returned (.agg #[.int .i64 1, .int .i64 n, .string ⟨#[]⟩]) ∧ Below w.heap.size w w' := by
  go_enter Try.func41, Try.ntmps41
  go_wp2
  exact bodyPost_ret (v := .agg #[.int .i64 1, .int .i64 n, .string ⟨#[]⟩]) (by simp [results, Try.results41, go_sem]) rfl ⟨rfl, by repeat (first | exact Below.refl _ _ | (refine Below.setCell ?_ (by first | omega | (simp; done) | (simp; omega)) _) | (refine Below.alloc ?_ (by first | omega | (simp; done) | (simp; omega)) _))⟩
set_option maxHeartbeats 400000 in
theorem null_any  (w : World) :
    Calls Try.prog 44 #[] w fun e w' => e = .returned (.agg #[.int .i64 0, .int .i64 0, .string ⟨#[]⟩]) ∧ Below w.heap.size w w' := by
  go_enter Try.func44, Try.ntmps44
  go_wp2
  exact bodyPost_ret (v := .agg #[.int .i64 0, .int .i64 0, .string ⟨#[]⟩]) (by simp [results, Try.results44, go_sem]) rfl ⟨rfl, by repeat (first | exact Below.refl _ _ | (refine Below.setCell ?_ (by first | omega | (simp; done) | (simp; omega)) _) | (refine Below.alloc ?_ (by first | omega | (simp; done) | (simp; omega)) _))⟩
def exN (n : Int) (b : Bool) : Int := if b = true then n else 0
def exE (b : Bool) : Int := if b = true then 0 else 84
set_option maxHeartbeats 400000 in
theorem exact_any (n : Int) (b : Bool) (w : World) :
    Calls Try.prog 52 #[.int .i64 n, .bool b] w fun e w' => e = .returned (.tuple #[.int .i64 (exN n b), .int .i64 (exE b)]) ∧ w = w' := by
  cases b
  all_goals
    go_enter Try.func52, Try.ntmps52
    go_wp2
    go_ret2
    exact ⟨rfl, rfl⟩
set_option maxHeartbeats 400000 in
theorem add_any (p q : Addr) (a b : Int) (w : World) (hp : w.cell? p = some (.int .i64 a)) (hq : w.cell? q = some (.int .i64 b)) :
    Calls Try.prog 51 #[.pointer (some p), .pointer (some q)] w fun e w' => e = .returned (.tuple #[.int .i64 (exN (wrap64 (a + b)) (decide (a < wrap64 (a + b)) == decide (0 < b))), .int .i64 (exE (decide (a < wrap64 (a + b)) == decide (0 < b)))]) ∧ w = w' := by
  go_enter Try.func51, Try.ntmps51
  go_wp2_with (go_at_call 52; refine (exact_any _ _ _).mono ?_; rintro e w1 ⟨rfl, rfl⟩)
  go_ret2
  exact ⟨rfl, rfl⟩
theorem ret_nums {a a' c c' : Int} (h1 : a = a') (h2 : c = c') : Ending.returned (.tuple #[.int .i64 a, .int .i64 c]) = .returned (.tuple #[.int .i64 a', .int .i64 c']) := by rw [h1, h2]
/-- What an op makes of two numbers: the number, the error. -/
def numN (op a b : Int) : Int := if op = 7 ∧ b = 0 then 0 else if inR (tru op a b) = true then tru op a b else 0
def numE (op a b : Int) : Int := if op = 7 ∧ b = 0 then 85 else if inR (tru op a b) = true then 0 else 84
theorem amount_add (p q : Addr) (a b : Int) (w : World) (hp : w.cell? p = some (.int .i64 a)) (hq : w.cell? q = some (.int .i64 b)) (ha : inR a = true) (hb : inR b = true) :
    Calls Try.prog 51 #[.pointer (some p), .pointer (some q)] w fun e w' => e = .returned (.tuple #[.int .i64 (numN 4 a b), .int .i64 (numE 4 a b)]) ∧ ∃ n, w' = w.drewN n :=
  (add_any p q a b w hp hq).mono fun e w' ⟨h1, h2⟩ => by
    rw [add_B a b ha hb] at h1
    refine ⟨h1.trans (ret_nums ?_ ?_), 0, h2.symm⟩
    · have := @wrap_in (a + b)
      grind [exN, numN, tru]
    · grind [exE, numE, tru]
set_option maxHeartbeats 400000 in
theorem amount_4 (a b : Int) (w : World) :
    Calls Try.prog 47 #[.int .i64 4, .int .i64 a, .int .i64 b] w fun e w' => e = .returned (.func (.func 51) #[] #[.pointer (some ⟨w.heap.size, 0, none⟩), .pointer (some ⟨w.heap.size + 1, 0, none⟩)]) ∧ (w.alloc (.cells #[.int .i64 a] 3)).alloc (.cells #[.int .i64 b] 3) = w' := by
  go_enter Try.func47, Try.ntmps47
  go_wp2
  go_ret
  exact ⟨rfl, rfl⟩
theorem below_drews {w w' : World} (h : ∃ n, w' = w.drewN n) : Below w.heap.size w w' := by
  obtain ⟨n, rfl⟩ := h
  exact below_drewN (Below.refl _ _) n
/-- What reckonNumber answers: the Kind, the number, the error. -/
def rkK (op k n : Int) (s : ByteArray) (k' n' : Int) (s' : ByteArray) : Int := if (fitB 1 k n s && fitB 1 k' n' s') = true then (if k = 0 ∨ k' = 0 then 0 else if numE op n n' = 0 then 1 else 0) else 0
def rkN (op k n : Int) (s : ByteArray) (k' n' : Int) (s' : ByteArray) : Int := if (fitB 1 k n s && fitB 1 k' n' s') = true then (if k = 0 ∨ k' = 0 then 0 else numN op n n') else 0
def rkE (op k n : Int) (s : ByteArray) (k' n' : Int) (s' : ByteArray) : Int := if (fitB 1 k n s && fitB 1 k' n' s') = true then (if k = 0 ∨ k' = 0 then 0 else numE op n n') else 81
theorem below2 (w : World) (o o' : Obj) : Below w.heap.size w ((w.alloc o).alloc o') := (below1 _ _).alloc (by simp) _
theorem clo_4 (a b : Int) (w : World) (ha : inR a = true) (hb : inR b = true) :
    Calls Try.prog 51 #[.pointer (some ⟨w.heap.size, 0, none⟩), .pointer (some ⟨w.heap.size + 1, 0, none⟩)] ((w.alloc (.cells #[.int .i64 a] 3)).alloc (.cells #[.int .i64 b] 3)) fun e w' => e = .returned (.tuple #[.int .i64 (numN 4 a b), .int .i64 (numE 4 a b)]) ∧ Below w.heap.size w w' :=
  (amount_add ⟨w.heap.size, 0, none⟩ ⟨w.heap.size + 1, 0, none⟩ a b _ (by rw [(below1 _ _).cell (by simp), cell_last _ _ _ _ _ rfl]; rfl) (by rw [cell_last _ _ _ _ _ (by simp)]; rfl) ha hb).mono fun e w' ⟨h1, h2⟩ => ⟨h1, (below2 _ _ _).trans ((below_drews h2).mono (by simp; omega))⟩
theorem ret_val {a a' b b' c c' : Int} {s : ByteArray} (h1 : a = a') (h2 : b = b') (h3 : c = c') : Ending.returned (.tuple #[.agg #[.int .i64 a, .int .i64 b, .string s], .int .i64 c]) = .returned (.tuple #[.agg #[.int .i64 a', .int .i64 b', .string s], .int .i64 c']) := by rw [h1, h2, h3]
set_option maxHeartbeats 1000000 in
theorem reckonNumber_4 (k n : Int) (s : ByteArray) (k' n' : Int) (s' : ByteArray) (w : World) (ha : Hid (inR n = true)) (hb : Hid (inR n' = true)) :
    Calls Try.prog 39 #[.int .i64 4, .agg #[.int .i64 k, .int .i64 n, .string s], .agg #[.int .i64 k', .int .i64 n', .string s']] w fun e w' => e = .returned (.tuple #[.agg #[.int .i64 (rkK 4 k n s k' n' s'), .int .i64 (rkN 4 k n s k' n' s'), .string ⟨#[]⟩], .int .i64 (rkE 4 k n s k' n' s')]) ∧ Below w.heap.size w w' := by
  go_enter Try.func39, Try.ntmps39
  go_wp2_with (first | (go_at_call 42; refine (fit2_last _ _ _ _ _ _ _ _ _ (by simp)).mono ?_; rintro e w1 ⟨rfl, hb1⟩; obtain ⟨hc, hf⟩ := bcell hb1; have z1 := hb1.size; simp only [World.size_alloc] at z1) | (go_at_call 43; refine (null2_last _ _ _ _ _ _ _ _ rfl).mono ?_; rintro e w2 ⟨rfl, hb2⟩; obtain ⟨hc2, hf2⟩ := bcell hb2; have q02 := fun o => hc2 w.heap.size o (by omega); have q12 := fun o => hc2 (w.heap.size + 1) o (by omega); have q22 := fun o => hc2 (w.heap.size + 1 + 1) o (by omega); have r22 := fun o => hf2 (w.heap.size + 1 + 1) o (by omega); clear hc2 hf2; have z2 := hb2.size) | (go_at_call 44; refine (null_any _).mono ?_; rintro e w3 ⟨rfl, hb3⟩; obtain ⟨hc3, hf3⟩ := bcell hb3; have q03 := fun o => hc3 w.heap.size o (by omega); have q13 := fun o => hc3 (w.heap.size + 1) o (by omega); have q23 := fun o => hc3 (w.heap.size + 1 + 1) o (by omega); have r23 := fun o => hf3 (w.heap.size + 1 + 1) o (by omega); clear hc3 hf3; have z3 := hb3.size) | (go_at_call 47; refine (amount_4 _ _ _).mono ?_; rintro e w4 ⟨rfl, rfl⟩) | (go_at_call 51; refine (clo_4 _ _ _ ha.out hb.out).mono ?_; rintro e w5 ⟨rfl, hb5⟩; obtain ⟨hc5, hf5⟩ := bcell hb5; have q05 := fun o => hc5 w.heap.size o (by omega); have q15 := fun o => hc5 (w.heap.size + 1) o (by omega); have q25 := fun o => hc5 (w.heap.size + 1 + 1) o (by omega); have r25 := fun o => hf5 (w.heap.size + 1 + 1) o (by omega); clear hc5 hf5; have z5 := hb5.size) | (go_at_call 41; refine (number_any _ _).mono ?_; rintro e w6 ⟨rfl, hb6⟩; obtain ⟨hc6, hf6⟩ := bcell hb6; have q06 := fun o => hc6 w.heap.size o (by omega); have q16 := fun o => hc6 (w.heap.size + 1) o (by omega); have q26 := fun o => hc6 (w.heap.size + 1 + 1) o (by omega); have r26 := fun o => hf6 (w.heap.size + 1 + 1) o (by omega); clear hc6 hf6; have z6 := hb6.size))
  · exact bodyPost_ret (v := .tuple #[.agg #[.int .i64 0, .int .i64 0, .string ⟨#[]⟩], .int .i64 81]) (by simp [results, Try.results39, go_sem, hc]) rfl ⟨ret_val (by grind [rkK, rkN, rkE]) (by grind [rkK, rkN, rkE, numN]) (by grind [rkK, rkN, rkE]), by repeat (first | exact Below.refl _ _ | (refine Below.setCell ?_ (by first | omega | (simp; done) | (simp; omega)) _) | (refine Below.alloc ?_ (by first | omega | (simp; done) | (simp; omega)) _) | (refine below_drewN ?_ _) | (refine Below.drew ?_) | (refine below_call hb1 (by first | omega | (simp; done) | (simp; omega)) ?_))⟩
  · exact bodyPost_ret (v := .tuple #[.agg #[.int .i64 0, .int .i64 0, .string ⟨#[]⟩], .int .i64 0]) (by simp [results, Try.results39, go_sem, q23, q22, hc]) rfl ⟨ret_val (by grind [rkK, rkN, rkE]) (by grind [rkK, rkN, rkE, numN]) (by grind [rkK, rkN, rkE]), by repeat (first | exact Below.refl _ _ | (refine Below.setCell ?_ (by first | omega | (simp; done) | (simp; omega)) _) | (refine Below.alloc ?_ (by first | omega | (simp; done) | (simp; omega)) _) | (refine below_drewN ?_ _) | (refine Below.drew ?_) | (refine below_call hb3 (by first | omega | (simp; done) | (simp; omega)) ?_) | (refine below_call hb2 (by first | omega | (simp; done) | (simp; omega)) ?_) | (refine below_call hb1 (by first | omega | (simp; done) | (simp; omega)) ?_))⟩
  · exact bodyPost_ret (v := .tuple #[.agg #[.int .i64 0, .int .i64 0, .string ⟨#[]⟩], .int .i64 (numE 4 n n')]) (by simp [results, Try.results39, go_sem, q25, q22, hc]) rfl ⟨ret_val (by grind [rkK, rkN, rkE]) (by grind [rkK, rkN, rkE, numN, numE]) (by grind [rkK, rkN, rkE]), by repeat (first | exact Below.refl _ _ | (refine Below.setCell ?_ (by first | omega | (simp; done) | (simp; omega)) _) | (refine Below.alloc ?_ (by first | omega | (simp; done) | (simp; omega)) _) | (refine below_drewN ?_ _) | (refine Below.drew ?_) | (refine below_call hb5 (by first | omega | (simp; done) | (simp; omega)) ?_) | (refine below_call hb2 (by first | omega | (simp; done) | (simp; omega)) ?_) | (refine below_call hb1 (by first | omega | (simp; done) | (simp; omega)) ?_))⟩
  · exact bodyPost_ret (v := .tuple #[.agg #[.int .i64 1, .int .i64 (numN 4 n n'), .string ⟨#[]⟩], .int .i64 0]) (by simp [results, Try.results39, go_sem, q26, q25, q22, hc]) rfl ⟨ret_val (by grind [rkK, rkN, rkE]) (by grind [rkK, rkN, rkE, numN, numE]) (by grind [rkK, rkN, rkE]), by repeat (first | exact Below.refl _ _ | (refine Below.setCell ?_ (by first | omega | (simp; done) | (simp; omega)) _) | (refine Below.alloc ?_ (by first | omega | (simp; done) | (simp; omega)) _) | (refine below_drewN ?_ _) | (refine Below.drew ?_) | (refine below_call hb6 (by first | omega | (simp; done) | (simp; omega)) ?_) | (refine below_call hb5 (by first | omega | (simp; done) | (simp; omega)) ?_) | (refine below_call hb2 (by first | omega | (simp; done) | (simp; omega)) ?_) | (refine below_call hb1 (by first | omega | (simp; done) | (simp; omega)) ?_))⟩

end Go.Proofs.Ytjogpcffldkhlaa
