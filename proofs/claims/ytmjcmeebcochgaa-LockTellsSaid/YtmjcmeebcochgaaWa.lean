/- LockJust of the statements answers true for any state, any lock, any transaction and any key: the walk. Conditions: a state that is read in memory, within reach. -/
import Derived.Test.YtmjcmeebcochgaaVq
namespace Go.Proofs.Ytmjcmeebcochgaa
open Go.RowKit Go.Sort Go.Maps
set_option linter.unusedSimpArgs false
set_option linter.unusedVariables false

/-- What a law has laid: the page's state, the page's lock. -/
structure Lf (w W : World) (gs gx : Nat) (A : Option Addr) (n c : Nat) (x : Lk) : Prop where
  s : W.cell? ⟨gs, 0, none⟩ = some (.slice A n c)
  x0 : W.cell? ⟨gx, 0, none⟩ = some (.int .i64 x.t)
  x1 : W.cell? ⟨gx, 1, none⟩ = some (.string x.lo.s)
  x2 : W.cell? ⟨gx, 2, none⟩ = some (.string x.hi.s)
  b : Below w.heap.size w W
theorem Lf.below {w W W' : World} {gs gx : Nat} {A : Option Addr} {n c : Nat} {x : Lk} (h : Lf w W gs gx A n c x) (hb : Below W.heap.size W W') : Lf w W' gs gx A n c x :=
  ⟨cell_keep h.s hb, cell_keep h.x0 hb, cell_keep h.x1 hb, cell_keep h.x2 hb, thn h.b hb⟩
theorem Lf.new (w : World) (A : Option Addr) (n c : Nat) (x : Lk) : Lf w ((w.alloc (.cells #[.slice A n c] 24)).alloc (.cells #[.int .i64 x.t, .string x.lo.s, .string x.hi.s] 26)) w.heap.size (w.heap.size + 1) A n c x := by
  have b1 := below1 w (.cells #[.slice A n c] 24)
  have b2 := below1 (w.alloc (.cells #[.slice A n c] 24)) (.cells #[.int .i64 x.t, .string x.lo.s, .string x.hi.s] 26)
  have e1 : (w.alloc (.cells #[.slice A n c] 24)).heap.size = w.heap.size + 1 := by simp
  exact ⟨cell_keep (cell_last w _ _ _ 0 rfl) b2, cell_last _ _ _ _ 0 e1.symm, cell_last _ _ _ _ 1 e1.symm, cell_last _ _ _ _ 2 e1.symm, thn b1 b2⟩
/-- A state in a cell of its own, read. -/
structure Stt (W : World) (g : Nat) (A : Option Addr) (n c : Nat) (l : List Lk) : Prop where
  s : W.cell? ⟨g, 0, none⟩ = some (.slice A n c)
  r : Rd W A n c l
theorem Stt.below {W W' : World} {g : Nat} {A : Option Addr} {n c : Nat} {l : List Lk} (h : Stt W g A n c l) (hb : Below W.heap.size W W') : Stt W' g A n c l := ⟨cell_keep h.s hb, h.r.below hb⟩
theorem Stt.new {W : World} {A : Option Addr} {n c : Nat} {l : List Lk} (h : Rd W A n c l) : Stt (W.alloc (.cells #[.slice A n c] 29)) W.heap.size A n c l := ⟨cell_last W _ _ _ 0 rfl, h.below (below1 _ _)⟩
/-- Whether the lock has the key, as it is reckoned. -/
theorem in_of (x : Lk) (k : Key) : hasB k x = ((Op.bytesLess x.lo.s.toList k.s.toList || x.lo.s.toList == k.s.toList) && (x.hi.s.toList.isEmpty || Op.bytesLess k.s.toList x.hi.s.toList)) := by
  rw [leq_dec, no_dec, less_dec]
  rfl
set_option maxRecDepth 100000 in
set_option maxHeartbeats 8000000 in
theorem kJust_any (A : Option Addr) (n c : Nat) (l : List Lk) (x : Lk) (t : Int) (k : Key) (w : World) (hr : Rd w A n c l) (hn : n * 40 ≤ 140737488355328) :
    Calls Try.prog 5 #[.agg #[.slice A n c], .agg #[.int .i64 x.t, .string x.lo.s, .string x.hi.s], .int .i64 t, .string k.s] w fun e w' => e = .returned (.bool true) ∧ Below w.heap.size w w' := by
  have HF0 := Lib.hid (Lf.new w A n c x)
  have HA := Lib.hid fun W => alive_any W
  have HO := Lib.hid fun W (hb : Below w.heap.size w W) => of_any A n c l W (hr.below hb) hn
  have HAD := Lib.hid fun A n c W (hr : Rd W A n c l) => add_any A n c l x W hr
  have HN := Lib.hid fun k W => num_any k W
  have HRD := Lib.hid fun m A n c W (hr : Rd W A n c m) => reads_any A n c m t k W hr
  have hcase : ((addR l x).2 ≠ 0 ∧ (addR l x).1 = []) ∨ ((addR l x).2 = 0 ∧ rdsB (addR l x).1 t k = ((t == x.t && ((Op.bytesLess x.lo.s.toList k.s.toList || x.lo.s.toList == k.s.toList) && (x.hi.s.toList.isEmpty || Op.bytesLess k.s.toList x.hi.s.toList))) || rdsB l t k)) := by
    by_cases h0 : (addR l x).2 = 0
    · obtain ⟨h1, h2, h3, _, h5⟩ := add_ok h0
      refine .inr ⟨h0, ?_⟩
      unfold rdsB
      rw [h5, in_of]
      have e1 : decide (Ok (addR l x).1) = true := decide_eq_true h3
      have e2 : decide (Ok l) = true := decide_eq_true h1
      have e3 : decide (t = x.t) = (t == x.t) := rfl
      rw [e1, e2, e3]
      simp
    · exact .inl ⟨h0, add_err h0⟩
  have HCA := Lib.hid hcase
  clear hr hcase
  generalize addR l x = R at *
  obtain ⟨m, E⟩ := R
  simp only at HAD HCA
  go_enter Try.func5, Try.ntmps5
  go_upto_region 1 with fail
  generalize (w.alloc (.cells #[.slice A n c] 24)).alloc (.cells #[.int .i64 x.t, .string x.lo.s, .string x.hi.s] 26) = W0 at *
  generalize w.heap.size + 1 = gx at *
  go_upto_region 3 with (go_at_call 24; (with_reducible refine (HA.out _).mono ?_); rintro e w1 ⟨rfl, hb⟩; have HF1 := Lib.hid (HF0.out.below hb); clear hb)
  have hs1 := HF1.out.s
  go_upto_region 4 with (go_at_call 9; (with_reducible refine (HO.out _ HF1.out.b).mono ?_); rintro e w2 ⟨A2, n2, c2, rfl, hr2, hb⟩; have HF2 := Lib.hid (HF1.out.below hb); have HR2 := Lib.hid hr2; clear hb hr2)
  clear hs1 HF1 HF0
  have HF3 := Lib.hid (HF2.out.below (below1 w2 (.cells #[.slice A2 n2 c2] 29)))
  have HS3 := Lib.hid (Stt.new HR2.out)
  clear HF2 HR2
  generalize w2.alloc (.cells #[.slice A2 n2 c2] 29) = W3 at *
  generalize w2.heap.size = g2 at *
  have hx0 := HF3.out.x0
  have hx1 := HF3.out.x1
  have hx2 := HF3.out.x2
  have hs3 := HS3.out.s
  go_upto_region 5 with (go_at_call 10; (with_reducible refine (HAD.out _ _ _ _ HS3.out.r).mono ?_); rintro e w4 ⟨A4, n4, c4, rfl, hr4, hb⟩; have HF4 := Lib.hid (HF3.out.below hb); have HS4 := Lib.hid (HS3.out.below hb); have HR4 := Lib.hid hr4; clear hb hr4)
  clear hx0 hx1 hx2 hs3 HF3 HS3
  have HF5 := Lib.hid (HF4.out.below (below1 w4 (.cells #[.slice A4 n4 c4] 29)))
  have HS5 := Lib.hid (HS4.out.below (below1 w4 (.cells #[.slice A4 n4 c4] 29)))
  have HT5 := Lib.hid (Stt.new HR4.out)
  clear HF4 HS4 HR4
  generalize w4.alloc (.cells #[.slice A4 n4 c4] 29) = W5 at *
  generalize w4.heap.size = g4 at *
  have ht5 := HT5.out.s
  rcases HCA.out with ⟨hE, hm⟩ | ⟨hE, hra⟩
  · have hE2 : (E != 0) = true := by simpa using hE
    subst hm
    obtain rfl : n4 = 0 := HT5.out.r.len.symm
    go_wp2_with (go_at_call 21; (with_reducible refine (HN.out _ _).mono ?_); rintro e w7 ⟨rfl, rfl⟩)
    go_ret
    exact ⟨rfl, HF5.out.b⟩
  · subst hE
    have hx0 := HF5.out.x0
    have hx1 := HF5.out.x1
    have hx2 := HF5.out.x2
    have HRM := Lib.hid fun A n c W (hr : Rd W A n c m) => HRD.out m A n c W hr
    have HRL := Lib.hid fun A n c W (hr : Rd W A n c l) => HRD.out l A n c W hr
    generalize rdsB m t k = ra at *
    generalize rdsB l t k = ro at *
    clear HRD HCA
    generalize hT : (t == x.t) = T at *
    generalize hL : (Op.bytesLess x.lo.s.toList k.s.toList || x.lo.s.toList == k.s.toList) = L at *
    generalize hH : x.hi.s.toList.isEmpty = H at *
    generalize hS : Op.bytesLess k.s.toList x.hi.s.toList = S at *
    have HRA := Lib.hid hra
    clear hra
    cases T
    all_goals cases L
    all_goals cases H
    all_goals
      go_upto_region 8 with (go_at_call 21; (with_reducible refine (HN.out _ _).mono ?_); rintro e w7 ⟨rfl, rfl⟩)
      cases S
    all_goals
      clear hx0 hx1 hx2
      have hs5 := HS5.out.s
      go_wp2_with (go_at_call 25; first | ((with_reducible refine (HRL.out _ _ _ _ HS8.out.r).mono ?_); rintro e w9 ⟨rfl, hb⟩; have HB9 := Lib.hid (thn HB8.out hb); clear hb) | ((with_reducible refine (HRM.out _ _ _ _ HT5.out.r).mono ?_); rintro e w8 ⟨rfl, hb⟩; have HS8 := Lib.hid (HS5.out.below hb); have HB8 := Lib.hid (thn HF5.out.b hb); have hs8 := HS8.out.s; clear hb))
      all_goals go_ret
      all_goals first | exact ⟨ret_bool (by have := HRA.out; simp at this; simp [this]), HB9.out⟩ | exact ⟨ret_bool (by have := HRA.out; simp at this; simp [this]), HB8.out⟩
end Go.Proofs.Ytmjcmeebcochgaa
