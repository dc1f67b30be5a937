/- KeycodePrefix answers true for any two values: the walk. Conditions: numbers of 64 bits. -/
import Derived.Test.YtapichngakcpeaaVg
import Derived.Deep.RegionHeld3
import Derived.Deep.DeepCutAuto
namespace Go.Proofs.Ytapichngakcpeaa
open Go.RowKit
set_option linter.unusedSimpArgs false
set_option linter.unusedVariables false

/-- A box of three cells at block g. -/
def Box (w : World) (g : Nat) (v : Vl) : Prop := g < w.heap.size ∧ w.cell? ⟨g, 0, none⟩ = some (.int .i64 v.k) ∧ w.cell? ⟨g, 1, none⟩ = some (.int .i64 v.n) ∧ w.cell? ⟨g, 2, none⟩ = some (.string v.s)
theorem Box.below {w w' : World} {g : Nat} {v : Vl} (h : Box w g v) (hb : Below w.heap.size w w') : Box w' g v := by
  obtain ⟨hc, hf⟩ := bcell hb
  exact ⟨Nat.lt_of_lt_of_le h.1 hb.size, by rw [hc _ _ h.1]; exact h.2.1, by rw [hc _ _ h.1]; exact h.2.2.1, by rw [hc _ _ h.1]; exact h.2.2.2⟩
theorem Box.new (w : World) (v : Vl) : Box (w.alloc (.cells #[.int .i64 v.k, .int .i64 v.n, .string v.s] 36)) w.heap.size v :=
  ⟨by simp, by rw [World.cell?_alloc_mark w _ 36 (0, 0) 0]; rfl, by rw [World.cell?_alloc_mark w _ 36 (0, 0) 1]; rfl, by rw [World.cell?_alloc_mark w _ 36 (0, 0) 2]; rfl⟩

/-- The key of one value, and the error's number. -/
def oneE (v : Vl) : Int := if okB v = true then 0 else 9
def oneT (v : Vl) : ByteArray := ⟨(if okB v = true then enc1 v else []).toArray⟩
theorem encode_one (v : Vl) (h : inR v.n = true) (w : World) : Calls Try.prog 10 #[.slice (some ⟨w.heap.size, 0, none⟩) 1 1] (w.alloc (.cells #[.int .i64 v.k, .int .i64 v.n, .string v.s] 36)) fun e w' => e = .returned (.tuple #[.string (oneT v), .int .i64 (oneE v)]) ∧ Below w.heap.size w w' := by
  have he : encE [v] = oneE v := by simp [encE, oneE]
  have ht : encT [v] = if okB v = true then enc1 v else [] := by
    unfold encT
    rw [he]
    unfold oneE
    cases okB v <;> simp [encL]
  exact (encode_any _ 1 1 [v] _ rfl (RdL_new w _ _ 36 _ rfl (by simp)) (by intro u hu; simp at hu; subst hu; exact h)).mono fun e w' ⟨h1, h2⟩ => ⟨by rw [h1, he, ht]; rfl, (below1 w _).trans (h2.mono (by simp))⟩

set_option maxHeartbeats 1000000 in

def eqV (a b : Vl) : Bool := (a.k == b.k) && ((a.n == b.n) && (a.s.toList == b.s.toList))
theorem stood36 : Try.prog.stoodInHeld 36 = false := by kernel_rfl
theorem under36 : Try.prog.underlying 36 = some (.struct (Try.prog.fieldsOf 36)) := by simp only [Program.fieldsOf, Try.underlying36]
theorem guard36 : Try.prog.eqGuardType Try.prog.depth 36 = false := by kernel_rfl
theorem run_eqV (a b : Vl) (w : World) : (binOp .eql 36 (.agg #[.int .i64 a.k, .int .i64 a.n, .string a.s]) (.agg #[.int .i64 b.k, .int .i64 b.n, .string b.s])).run Try.prog w = .ok (.bool (eqV a b)) w := by
  rw [run_eql_struct, run_equalIn_agg w 9999 36 _ _ under36 stood36]
  simp [go_sem, eqV, Try.underlying36]
  by_cases h1 : a.k = b.k <;> by_cases h2 : a.n = b.n <;> by_cases h3 : a.s.toList = b.s.toList <;> simp [h1, h2, h3]

theorem eqV_iff (a b : Vl) : eqV a b = true ↔ a = b := by
  obtain ⟨a0, a1, ⟨⟨a2⟩⟩⟩ := a
  obtain ⟨b0, b1, ⟨⟨b2⟩⟩⟩ := b
  simp [eqV, ByteArray.toList_eq]
theorem extract_toList (T : ByteArray) (n : Nat) : (T.extract 0 n).toList = T.toList.take n := by
  rw [ByteArray.toList_eq, ByteArray.toList_eq]
  simp
theorem size_toList (T : ByteArray) : T.toList.length = T.size := by rw [ByteArray.toList_eq]; simp

set_option maxHeartbeats 1000000 in
theorem kPrefix_le (a b : Vl) (w : World) (S T : ByteArray) (E : Bool) (hge : S.size ≤ T.size) (hE : Hid (((T.extract 0 S.size).toList == S.toList) = E))
    (hc : ∀ w : World, Calls Try.prog 10 #[.slice (some ⟨w.heap.size, 0, none⟩) 1 1] (w.alloc (.cells #[.int .i64 a.k, .int .i64 a.n, .string a.s] 36)) fun e w' => e = .returned (.tuple #[.string S, .int .i64 0]) ∧ Below w.heap.size w w')
    (hc' : ∀ w : World, Calls Try.prog 10 #[.slice (some ⟨w.heap.size, 0, none⟩) 1 1] (w.alloc (.cells #[.int .i64 b.k, .int .i64 b.n, .string b.s] 36)) fun e w' => e = .returned (.tuple #[.string T, .int .i64 0]) ∧ Below w.heap.size w w')
    (heq : ∀ w, (binOp .eql 36 (.agg #[.int .i64 a.k, .int .i64 a.n, .string a.s]) (.agg #[.int .i64 b.k, .int .i64 b.n, .string b.s])).run Try.prog w = .ok (.bool E) w) :
    Calls Try.prog 8 #[.agg #[.int .i64 a.k, .int .i64 a.n, .string a.s], .agg #[.int .i64 b.k, .int .i64 b.n, .string b.s]] w fun e w' => e = .returned (.bool true) ∧ Below w.heap.size w w' := by
  have hg := guard36
  go_enter Try.func8, Try.ntmps8
  go_upto_region 1 with (fail)
  have b1 := (Box.new w a).below (below1 _ (.cells #[.int .i64 b.k, .int .i64 b.n, .string b.s] 36))
  have b2 := Box.new (w.alloc (.cells #[.int .i64 a.k, .int .i64 a.n, .string a.s] 36)) b
  have hA : Below w.heap.size w ((w.alloc (.cells #[.int .i64 a.k, .int .i64 a.n, .string a.s] 36)).alloc (.cells #[.int .i64 b.k, .int .i64 b.n, .string b.s] 36)) := (below1 _ _).alloc (by simp) _
  rw [World.size_alloc] at b2
  generalize hW : (w.alloc (.cells #[.int .i64 a.k, .int .i64 a.n, .string a.s] 36)).alloc (.cells #[.int .i64 b.k, .int .i64 b.n, .string b.s] 36) = X0 at b1 b2 hA ⊢
  clear hW
  go_upto_region 3 with (go_at_call 9; refine (alive_any _).mono ?_; rintro e w1 ⟨rfl, h⟩; have b1 := b1.below h; have b2 := b2.below h; have hA := hA.trans (h.mono hA.size); clear h)
  obtain ⟨z1, p0, p1, p2⟩ := b1
  obtain ⟨z2, q0, q1, q2⟩ := b2
  go_upto_region 4 with (go_at_call 10; (with_reducible refine (hc _).mono ?_); rintro e w2 ⟨rfl, h⟩)
  have b1 := Box.below ⟨z1, p0, p1, p2⟩ h
  have b2 := Box.below ⟨z2, q0, q1, q2⟩ h
  have hA := hA.trans (h.mono hA.size)
  clear z1 p0 p1 p2 z2 q0 q1 q2 h
  obtain ⟨z1, p0, p1, p2⟩ := b1
  obtain ⟨z2, q0, q1, q2⟩ := b2
  go_upto_region 7 with (first | (go_at_call 10; (with_reducible refine (hc' _).mono ?_); rintro e w3 ⟨rfl, h⟩; have b1 := Box.below ⟨z1, p0, p1, p2⟩ h; have b2 := Box.below ⟨z2, q0, q1, q2⟩ h; have hA := hA.trans (h.mono hA.size); clear z1 p0 p1 p2 z2 q0 q1 q2 h; obtain ⟨z1, p0, p1, p2⟩ := b1; obtain ⟨z2, q0, q1, q2⟩ := b2) | (go_at_call 11; refine (num_any _ _).mono ?_; rintro e w4 ⟨rfl, rfl⟩))
  go_quiet (fail)
  go_wp2
  go_ret
  exact ⟨ret_bool (by rw [hE.out]; simp), below_drewN hA _⟩

set_option maxHeartbeats 1000000 in
theorem kPrefix_gt (a b : Vl) (w : World) (S T : ByteArray) (hge : T.size < S.size) (hd : decide (S.size ≤ T.size) = false)
    (hc : ∀ w : World, Calls Try.prog 10 #[.slice (some ⟨w.heap.size, 0, none⟩) 1 1] (w.alloc (.cells #[.int .i64 a.k, .int .i64 a.n, .string a.s] 36)) fun e w' => e = .returned (.tuple #[.string S, .int .i64 0]) ∧ Below w.heap.size w w')
    (hc' : ∀ w : World, Calls Try.prog 10 #[.slice (some ⟨w.heap.size, 0, none⟩) 1 1] (w.alloc (.cells #[.int .i64 b.k, .int .i64 b.n, .string b.s] 36)) fun e w' => e = .returned (.tuple #[.string T, .int .i64 0]) ∧ Below w.heap.size w w')
    (heq : ∀ w, (binOp .eql 36 (.agg #[.int .i64 a.k, .int .i64 a.n, .string a.s]) (.agg #[.int .i64 b.k, .int .i64 b.n, .string b.s])).run Try.prog w = .ok (.bool false) w) :
    Calls Try.prog 8 #[.agg #[.int .i64 a.k, .int .i64 a.n, .string a.s], .agg #[.int .i64 b.k, .int .i64 b.n, .string b.s]] w fun e w' => e = .returned (.bool true) ∧ Below w.heap.size w w' := by
  have hg := guard36
  go_enter Try.func8, Try.ntmps8
  go_upto_region 1 with (fail)
  have b1 := (Box.new w a).below (below1 _ (.cells #[.int .i64 b.k, .int .i64 b.n, .string b.s] 36))
  have b2 := Box.new (w.alloc (.cells #[.int .i64 a.k, .int .i64 a.n, .string a.s] 36)) b
  have hA : Below w.heap.size w ((w.alloc (.cells #[.int .i64 a.k, .int .i64 a.n, .string a.s] 36)).alloc (.cells #[.int .i64 b.k, .int .i64 b.n, .string b.s] 36)) := (below1 _ _).alloc (by simp) _
  rw [World.size_alloc] at b2
  generalize hW : (w.alloc (.cells #[.int .i64 a.k, .int .i64 a.n, .string a.s] 36)).alloc (.cells #[.int .i64 b.k, .int .i64 b.n, .string b.s] 36) = X0 at b1 b2 hA ⊢
  clear hW
  go_upto_region 3 with (go_at_call 9; refine (alive_any _).mono ?_; rintro e w1 ⟨rfl, h⟩; have b1 := b1.below h; have b2 := b2.below h; have hA := hA.trans (h.mono hA.size); clear h)
  obtain ⟨z1, p0, p1, p2⟩ := b1
  obtain ⟨z2, q0, q1, q2⟩ := b2
  go_upto_region 4 with (go_at_call 10; (with_reducible refine (hc _).mono ?_); rintro e w2 ⟨rfl, h⟩)
  have b1 := Box.below ⟨z1, p0, p1, p2⟩ h
  have b2 := Box.below ⟨z2, q0, q1, q2⟩ h
  have hA := hA.trans (h.mono hA.size)
  clear z1 p0 p1 p2 z2 q0 q1 q2 h
  obtain ⟨z1, p0, p1, p2⟩ := b1
  obtain ⟨z2, q0, q1, q2⟩ := b2
  go_upto_region 7 with (first | (go_at_call 10; (with_reducible refine (hc' _).mono ?_); rintro e w3 ⟨rfl, h⟩; have b1 := Box.below ⟨z1, p0, p1, p2⟩ h; have b2 := Box.below ⟨z2, q0, q1, q2⟩ h; have hA := hA.trans (h.mono hA.size); clear z1 p0 p1 p2 z2 q0 q1 q2 h; obtain ⟨z1, p0, p1, p2⟩ := b1; obtain ⟨z2, q0, q1, q2⟩ := b2) | (go_at_call 11; refine (num_any _ _).mono ?_; rintro e w4 ⟨rfl, rfl⟩))
  go_quiet (fail)
  go_wp2
  go_ret
  exact ⟨rfl, below_drewN hA _⟩

set_option maxHeartbeats 1000000 in
theorem kPrefix_no (a b : Vl) (w : World) (S T : ByteArray) (e f : Int) (h : Hid ((e = 9 ∧ S = ⟨#[]⟩ ∧ (f = 0 ∨ f = 9)) ∨ (e = 0 ∧ f = 9 ∧ T = ⟨#[]⟩)))
    (hc : ∀ w : World, Calls Try.prog 10 #[.slice (some ⟨w.heap.size, 0, none⟩) 1 1] (w.alloc (.cells #[.int .i64 a.k, .int .i64 a.n, .string a.s] 36)) fun e' w' => e' = .returned (.tuple #[.string S, .int .i64 e]) ∧ Below w.heap.size w w')
    (hc' : ∀ w : World, Calls Try.prog 10 #[.slice (some ⟨w.heap.size, 0, none⟩) 1 1] (w.alloc (.cells #[.int .i64 b.k, .int .i64 b.n, .string b.s] 36)) fun e' w' => e' = .returned (.tuple #[.string T, .int .i64 f]) ∧ Below w.heap.size w w') :
    Calls Try.prog 8 #[.agg #[.int .i64 a.k, .int .i64 a.n, .string a.s], .agg #[.int .i64 b.k, .int .i64 b.n, .string b.s]] w fun e w' => e = .returned (.bool true) ∧ Below w.heap.size w w' := by
  rcases h.out with ⟨rfl, rfl, rfl | rfl⟩ | ⟨rfl, rfl, rfl⟩
  all_goals clear h
  · go_enter Try.func8, Try.ntmps8
    go_upto_region 1 with (fail)
    have b1 := (Box.new w a).below (below1 _ (.cells #[.int .i64 b.k, .int .i64 b.n, .string b.s] 36))
    have b2 := Box.new (w.alloc (.cells #[.int .i64 a.k, .int .i64 a.n, .string a.s] 36)) b
    have hA : Below w.heap.size w ((w.alloc (.cells #[.int .i64 a.k, .int .i64 a.n, .string a.s] 36)).alloc (.cells #[.int .i64 b.k, .int .i64 b.n, .string b.s] 36)) := (below1 _ _).alloc (by simp) _
    rw [World.size_alloc] at b2
    generalize hW : (w.alloc (.cells #[.int .i64 a.k, .int .i64 a.n, .string a.s] 36)).alloc (.cells #[.int .i64 b.k, .int .i64 b.n, .string b.s] 36) = X0 at b1 b2 hA ⊢
    clear hW
    go_upto_region 3 with (go_at_call 9; refine (alive_any _).mono ?_; rintro e w1 ⟨rfl, h⟩; have b1 := b1.below h; have b2 := b2.below h; have hA := hA.trans (h.mono hA.size); clear h)
    obtain ⟨z1, p0, p1, p2⟩ := b1
    obtain ⟨z2, q0, q1, q2⟩ := b2
    go_upto_region 4 with (go_at_call 10; (with_reducible refine (hc _).mono ?_); rintro e w2 ⟨rfl, h⟩)
    have b1 := Box.below ⟨z1, p0, p1, p2⟩ h
    have b2 := Box.below ⟨z2, q0, q1, q2⟩ h
    have hA := hA.trans (h.mono hA.size)
    clear z1 p0 p1 p2 z2 q0 q1 q2 h
    obtain ⟨z1, p0, p1, p2⟩ := b1
    obtain ⟨z2, q0, q1, q2⟩ := b2
    go_wp2_with (first | (go_at_call 10; (with_reducible refine (hc' _).mono ?_); rintro e w3 ⟨rfl, h⟩; have b1 := Box.below ⟨z1, p0, p1, p2⟩ h; have b2 := Box.below ⟨z2, q0, q1, q2⟩ h; have hA := hA.trans (h.mono hA.size); clear z1 p0 p1 p2 z2 q0 q1 q2 h; obtain ⟨z1, p0, p1, p2⟩ := b1; obtain ⟨z2, q0, q1, q2⟩ := b2) | (go_at_call 11; refine (num_any _ _).mono ?_; rintro e w4 ⟨rfl, rfl⟩))
    go_ret
    exact ⟨rfl, hA⟩
  · go_enter Try.func8, Try.ntmps8
    go_upto_region 1 with (fail)
    have b1 := (Box.new w a).below (below1 _ (.cells #[.int .i64 b.k, .int .i64 b.n, .string b.s] 36))
    have b2 := Box.new (w.alloc (.cells #[.int .i64 a.k, .int .i64 a.n, .string a.s] 36)) b
    have hA : Below w.heap.size w ((w.alloc (.cells #[.int .i64 a.k, .int .i64 a.n, .string a.s] 36)).alloc (.cells #[.int .i64 b.k, .int .i64 b.n, .string b.s] 36)) := (below1 _ _).alloc (by simp) _
    rw [World.size_alloc] at b2
    generalize hW : (w.alloc (.cells #[.int .i64 a.k, .int .i64 a.n, .string a.s] 36)).alloc (.cells #[.int .i64 b.k, .int .i64 b.n, .string b.s] 36) = X0 at b1 b2 hA ⊢
    clear hW
    go_upto_region 3 with (go_at_call 9; refine (alive_any _).mono ?_; rintro e w1 ⟨rfl, h⟩; have b1 := b1.below h; have b2 := b2.below h; have hA := hA.trans (h.mono hA.size); clear h)
    obtain ⟨z1, p0, p1, p2⟩ := b1
    obtain ⟨z2, q0, q1, q2⟩ := b2
    go_upto_region 4 with (go_at_call 10; (with_reducible refine (hc _).mono ?_); rintro e w2 ⟨rfl, h⟩)
    have b1 := Box.below ⟨z1, p0, p1, p2⟩ h
    have b2 := Box.below ⟨z2, q0, q1, q2⟩ h
    have hA := hA.trans (h.mono hA.size)
    clear z1 p0 p1 p2 z2 q0 q1 q2 h
    obtain ⟨z1, p0, p1, p2⟩ := b1
    obtain ⟨z2, q0, q1, q2⟩ := b2
    go_wp2_with (first | (go_at_call 10; (with_reducible refine (hc' _).mono ?_); rintro e w3 ⟨rfl, h⟩; have b1 := Box.below ⟨z1, p0, p1, p2⟩ h; have b2 := Box.below ⟨z2, q0, q1, q2⟩ h; have hA := hA.trans (h.mono hA.size); clear z1 p0 p1 p2 z2 q0 q1 q2 h; obtain ⟨z1, p0, p1, p2⟩ := b1; obtain ⟨z2, q0, q1, q2⟩ := b2) | (go_at_call 11; refine (num_any _ _).mono ?_; rintro e w4 ⟨rfl, rfl⟩))
    go_ret
    exact ⟨rfl, hA⟩
  · go_enter Try.func8, Try.ntmps8
    go_upto_region 1 with (fail)
    have b1 := (Box.new w a).below (below1 _ (.cells #[.int .i64 b.k, .int .i64 b.n, .string b.s] 36))
    have b2 := Box.new (w.alloc (.cells #[.int .i64 a.k, .int .i64 a.n, .string a.s] 36)) b
    have hA : Below w.heap.size w ((w.alloc (.cells #[.int .i64 a.k, .int .i64 a.n, .string a.s] 36)).alloc (.cells #[.int .i64 b.k, .int .i64 b.n, .string b.s] 36)) := (below1 _ _).alloc (by simp) _
    rw [World.size_alloc] at b2
    generalize hW : (w.alloc (.cells #[.int .i64 a.k, .int .i64 a.n, .string a.s] 36)).alloc (.cells #[.int .i64 b.k, .int .i64 b.n, .string b.s] 36) = X0 at b1 b2 hA ⊢
    clear hW
    go_upto_region 3 with (go_at_call 9; refine (alive_any _).mono ?_; rintro e w1 ⟨rfl, h⟩; have b1 := b1.below h; have b2 := b2.below h; have hA := hA.trans (h.mono hA.size); clear h)
    obtain ⟨z1, p0, p1, p2⟩ := b1
    obtain ⟨z2, q0, q1, q2⟩ := b2
    go_upto_region 4 with (go_at_call 10; (with_reducible refine (hc _).mono ?_); rintro e w2 ⟨rfl, h⟩)
    have b1 := Box.below ⟨z1, p0, p1, p2⟩ h
    have b2 := Box.below ⟨z2, q0, q1, q2⟩ h
    have hA := hA.trans (h.mono hA.size)
    clear z1 p0 p1 p2 z2 q0 q1 q2 h
    obtain ⟨z1, p0, p1, p2⟩ := b1
    obtain ⟨z2, q0, q1, q2⟩ := b2
    go_wp2_with (first | (go_at_call 10; (with_reducible refine (hc' _).mono ?_); rintro e w3 ⟨rfl, h⟩; have b1 := Box.below ⟨z1, p0, p1, p2⟩ h; have b2 := Box.below ⟨z2, q0, q1, q2⟩ h; have hA := hA.trans (h.mono hA.size); clear z1 p0 p1 p2 z2 q0 q1 q2 h; obtain ⟨z1, p0, p1, p2⟩ := b1; obtain ⟨z2, q0, q1, q2⟩ := b2) | (go_at_call 11; refine (num_any _ _).mono ?_; rintro e w4 ⟨rfl, rfl⟩))
    all_goals go_ret
    all_goals exact ⟨rfl, hA⟩

theorem kPrefix_any (a b : Vl) (w : World) (ha : inR a.n = true) (hb : inR b.n = true) :
    Calls Try.prog 8 #[.agg #[.int .i64 a.k, .int .i64 a.n, .string a.s], .agg #[.int .i64 b.k, .int .i64 b.n, .string b.s]] w fun e w' => e = .returned (.bool true) ∧ Below w.heap.size w w' := by
  have hc := encode_one a ha
  have hc' := encode_one b hb
  cases h1 : okB a <;> cases h2 : okB b
  · exact kPrefix_no a b w _ _ _ _ (.inl ⟨by simp [oneE, h1], by simp [oneT, h1], .inr (by simp [oneE, h2])⟩) hc hc'
  · exact kPrefix_no a b w _ _ _ _ (.inl ⟨by simp [oneE, h1], by simp [oneT, h1], .inl (by simp [oneE, h2])⟩) hc hc'
  · exact kPrefix_no a b w _ _ _ _ (.inr ⟨by simp [oneE, h1], by simp [oneE, h2], by simp [oneT, h2]⟩) hc hc'
  · have e1 : oneE a = 0 := by simp [oneE, h1]
    have e2 : oneE b = 0 := by simp [oneE, h2]
    rw [e1] at hc
    rw [e2] at hc'
    have t1 : (oneT a).toList = enc1 a := by rw [ByteArray.toList_eq]; simp [oneT, h1]
    have t2 : (oneT b).toList = enc1 b := by rw [ByteArray.toList_eq]; simp [oneT, h2]
    by_cases hge : (oneT a).size ≤ (oneT b).size
    · refine kPrefix_le a b w _ _ (eqV a b) hge ?_ hc hc' (run_eqV a b)
      show _ = _
      rw [Bool.eq_iff_iff, eqV_iff, beq_iff_eq, extract_toList, t1, t2]
      have hl : (enc1 a).length = (oneT a).size := by rw [← t1, size_toList]
      rw [← hl]
      constructor
      · intro h
        exact enc1_prefix ⟨h1, ha⟩ ⟨h2, hb⟩ ((enc1 b).drop (enc1 a).length) (by have h3 := List.take_append_drop (enc1 a).length (enc1 b); rw [h] at h3; exact h3.symm)
      · rintro rfl
        simp
    · refine kPrefix_gt a b w _ _ (by omega) (by simpa using by omega) hc hc' (fun w => ?_)
      have : eqV a b = false := by
        rw [Bool.eq_false_iff]
        intro h
        rw [eqV_iff] at h
        subst h
        omega
      rw [← this]
      exact run_eqV a b w

end Go.Proofs.Ytapichngakcpeaa
