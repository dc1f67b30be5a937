/- Write, Undo and Prune of package version over any chain: the walks. Conditions: a chain that is read in memory. -/
import Derived.Test.YtclcidcjeoajaaaVg
import Derived.Lib.AppendZeros
import Derived.Lib.OwnKind
import Derived.Laws.OwnMore
import Derived.Laws.AppendOwnNone
namespace Go.Proofs.Ytclcidcjeoajaaa
open Go.RowKit Go.Sort
set_option linter.unusedSimpArgs false
set_option linter.unusedVariables false

theorem own_below {B : Nat} {e : TypeId} {k : Nat} {v : Value} {n : Nat} {xs : List Value} {w w' : World} (h : w.ownsRow B e k v n xs) (hb : Below w.heap.size w w') : w'.ownsRow B e k v n xs :=
  h.kept (row := none) ⟨hb.os, hb.tape, hb.output, hb.size, fun k hk _ => hb.block k hk⟩ (by cases hv : v.ownBlock <;> simp)
/-- append of a chain that is read, nil or not, onto one of the call's own. -/
theorem run_appendR {P : Program} (w : World) (base : Nat) (t ty e : TypeId) (i : TypeInfo) (z : Value) (bytes : Nat) (ht : P.underlying t = some (.slice e)) (hi : P.info? e = some i) (hz : i.zero = some z) (hsize : i.size = 4) (hby : i.bytes = bytes) (hzs : z.cells.size = 4)
    (v : Value) (n : Nat) (xs : List Value) (hown : w.ownsRow base e 4 v n xs) (A : Option Addr) (m c : Nat) (l : List Ver) (hr : Rd w A m c l)
    (h63 : n + m ≤ maxLen) (hbytes : (n + m) * bytes ≤ 140737488355328) (hbase : base ≤ w.heap.size) :
    ∃ v' w', (Builtin.append_ #[t, t] ty #[v, .slice A m c]).run P w = .ok v' w' ∧ w'.ownsRow base e 4 v' (n + m) (xs ++ vers l) ∧ w.grownBy w' v.ownBlock ∧ (v'.ownBlock = v.ownBlock ∨ v'.ownBlock = some w.heap.size) := by
  cases A with
  | none =>
    obtain ⟨rfl, rfl⟩ := hr.nil rfl
    have hn : l = [] := List.eq_nil_of_length_eq_zero hr.len
    subst hn
    refine ⟨v, w, ?_, by simpa [vers] using hown, ⟨rfl, rfl, rfl, Nat.le_refl _, fun _ _ _ => rfl⟩, .inl rfl⟩
    rcases hown.2 with ⟨rfl, rfl⟩ | ⟨g, cap, cur, rfl, _, _, hnc, _⟩
    · simp [Builtin.append_, run_underlying ht, sizeOf, typeInfo, hi, Builtin.lenOf, Builtin.firstCells]
    · simp [Builtin.append_, run_underlying ht, sizeOf, typeInfo, hi, Builtin.lenOf, Builtin.firstCells, hnc, storeCells]
  | some ad =>
    obtain ⟨v', w', hrun, h2, h3, _, h5⟩ := run_append_own_at (P := P) w base t ty e i z 4 bytes ht hi hz hsize hby hzs (by decide) v n xs hown ad m c (vers l) (by rw [vers_len, hr.len]) hr.news (vers_one l) h63 hbytes hbase
    exact ⟨v', w', hrun, h2, h3, h5⟩
theorem wpList_appendR {P : Program} {w : World} {ops : Array Oper} {rest : List Oper} {o : Oper} {a : Act} {Q : Exit → Act → World → Prop} (hgd : o.guard = none) (s x : Operand) (t : TypeId)
    (ho : o.op = .call { callee := .builtin .append, args := #[s, x], argTypes := #[t, t] })
    (base : Nat) (e : TypeId) (i : TypeInfo) (z : Value) (bytes : Nat) (ht : P.underlying t = some (.slice e)) (hi : P.info? e = some i) (hz : i.zero = some z) (hsize : i.size = 4) (hby : i.bytes = bytes) (hzs : z.cells.size = 4)
    (v : Value) (n : Nat) (xs : List Value) (hs : a.eval s = v) (hown : w.ownsRow base e 4 v n xs) (A : Option Addr) (m c : Nat) (l : List Ver) (hx : a.eval x = .slice A m c) (hr : Rd w A m c l)
    (h63 : n + m ≤ maxLen) (hbytes : (n + m) * bytes ≤ 140737488355328) (hbase : base ≤ w.heap.size)
    (h : ∀ v' w', w'.ownsRow base e 4 v' (n + m) (xs ++ vers l) → w.grownBy w' v.ownBlock → (v'.ownBlock = v.ownBlock ∨ v'.ownBlock = some w.heap.size) → wpList P ops Q rest (a.put o.dst v') w') : wpList P ops Q (o :: rest) a w := by
  obtain ⟨v', w', hrun, h2, h3, h4⟩ := run_appendR (P := P) w base t o.type e i z bytes ht hi hz hsize hby hzs v n xs hown A m c l hr h63 hbytes hbase
  exact Lib.wpList_append_run w hgd s x t t ho v (.slice A m c) hs hx v' w' hrun (h v' w' h2 h3 h4)

/-- A chain and an error. -/
def PairX (l : List Ver) (E : Int) (w : World) (e : Ending) (w' : World) : Prop := ∃ A n c, e = .returned (.tuple #[.slice A n c, .int .i64 E]) ∧ Rd w' A n c l ∧ Below w.heap.size w w'
theorem PairX.nil {E : Int} {w w' : World} (h : Below w.heap.size w w') : PairX [] E w (.returned (.tuple #[.slice none 0 0, .int .i64 E])) w' := ⟨none, 0, 0, rfl, Rd.nothing _, h⟩
set_option maxHeartbeats 4000000 in
theorem write_bad (A : Option Addr) (n c : Nat) (l : List Ver) (m x : Int) (g : Bool) (s : ByteArray) (w : World) (hr : Rd w A n c l) (h : ¬ Ok l) :
    Calls Try.prog 12 #[.slice A n c, .int .i64 m, .int .i64 x, .bool g, .string s] w (PairX [] 9 w) := by
  have HC := Lib.hid (check_any A n c l w hr 9 (.inr ⟨h, rfl⟩))
  clear hr h
  go_enter Try.func12, Try.ntmps12
  go_wp2_with (go_at_call 10; (with_reducible refine HC.out.mono ?_); rintro e w1 ⟨rfl, hb1⟩)
  go_ret2
  exact PairX.nil hb1
set_option maxHeartbeats 4000000 in
theorem write_no (A : Option Addr) (n c : Nat) (l : List Ver) (m x : Int) (g : Bool) (s : ByteArray) (w : World) (hs : s.size ≤ 140737488355328) (hr : Rd w A n c l) (h : Ok l) (E : Int) (hE : wrE l m x g s = E) (h0 : E ≠ 0) :
    Calls Try.prog 12 #[.slice A n c, .int .i64 m, .int .i64 x, .bool g, .string s] w (PairX [] E w) := by
  have HC := Lib.hid (check_any A n c l w hr 0 (.inl ⟨h, rfl⟩))
  have HX := Lib.hid fun W => mayWrite_any x W
  have HF := Lib.hid fun W => fits_any g s W hs
  have HI := Lib.hid fun W (hb : Below w.heap.size w W) => isFirst_any A n c l x W (hr.below hb)
  have HG := Lib.hid fun W (hb : Below w.heap.size w W) => mayGrow_any A n c l m W (hr.below hb) (by have := h.1; have := hr.len; omega)
  clear hr h
  unfold wrE at hE
  generalize txB x = X at *
  generalize fitB g s = F at *
  generalize fstB x l = I at *
  generalize grwE m l = G at *
  cases X
  · simp at hE
    subst hE
    go_enter Try.func12, Try.ntmps12
    go_wp2_with (first | (go_at_call 10; (with_reducible refine HC.out.mono ?_); rintro e w1 ⟨rfl, hb1⟩) | (go_at_call 24; (with_reducible refine (HX.out _).mono ?_); rintro e w1 ⟨rfl, rfl⟩))
    go_ret2
    exact PairX.nil hb1
  · cases F
    · simp at hE
      subst hE
      go_enter Try.func12, Try.ntmps12
      go_wp2_with (first | (go_at_call 10; (with_reducible refine HC.out.mono ?_); rintro e w1 ⟨rfl, hb1⟩) | (go_at_call 24; (with_reducible refine (HX.out _).mono ?_); rintro e w1 ⟨rfl, rfl⟩) | (go_at_call 25; (with_reducible refine (HF.out _).mono ?_); rintro e w1 ⟨rfl, rfl⟩))
      go_ret2
      exact PairX.nil hb1
    · cases I
      · simp at hE
        subst hE
        have hn : (G != 0) = true := by simpa using h0
        go_enter Try.func12, Try.ntmps12
        go_wp2_with (first | (go_at_call 10; (with_reducible refine HC.out.mono ?_); rintro e w1 ⟨rfl, hb1⟩; have HB1 := Lib.hid hb1; clear hb1) | (go_at_call 24; (with_reducible refine (HX.out _).mono ?_); rintro e w1 ⟨rfl, rfl⟩) | (go_at_call 25; (with_reducible refine (HF.out _).mono ?_); rintro e w1 ⟨rfl, rfl⟩) | (go_at_call 26; (with_reducible refine (HI.out _ HB1.out).mono ?_); rintro e w2 ⟨rfl, hb2⟩; have HB2 := Lib.hid (thn HB1.out hb2); clear hb2) | (go_at_call 27; (with_reducible refine (HG.out _ HB2.out).mono ?_); rintro e w3 ⟨rfl, hb3⟩; have HB3 := Lib.hid (thn HB2.out hb3); clear hb3))
        go_ret2
        exact PairX.nil HB3.out
      · simp at hE
        exact absurd hE.symm h0
/-- What fresh makes of a chain that may be. -/
def FreshX (l : List Ver) (w : World) (e : Ending) (w' : World) : Prop := ∃ g, e = .returned (.slice (some ⟨g, 0, none⟩) l.length l.length) ∧ Row w' g l ∧ w.heap.size ≤ g ∧ g < w'.heap.size ∧ Below w.heap.size w w'
theorem fresh_x (A : Option Addr) (n c : Nat) (l : List Ver) (w : World) (hr : Rd w A n c l) (hn : n ≤ 1000000) :
    Calls Try.prog 18 #[.slice A n c] w (FreshX l w) := by
  have e := hr.len
  subst e
  exact fresh_any A _ c l w hr hn
theorem Row.pair {w w' : World} {g : Nat} {l : List Ver} (h : Row w' g l) (hl : l.length ≤ 1000000) (hb : Below w.heap.size w w') : PairX l 0 w (.returned (.tuple #[.slice (some ⟨g, 0, none⟩) l.length l.length, .int .i64 0])) w' :=
  ⟨_, _, _, rfl, h.rd rfl (by omega), hb⟩
set_option maxHeartbeats 4000000 in
theorem write_ok (A : Option Addr) (n c : Nat) (l : List Ver) (m x : Int) (g : Bool) (s : ByteArray) (w : World) (hs : s.size ≤ 140737488355328) (hr : Rd w A n c l) (h : Ok l) (hE : wrE l m x g s = 0) :
    Calls Try.prog 12 #[.slice A n c, .int .i64 m, .int .i64 x, .bool g, .string s] w (PairX (new x g s hs :: wout x l) 0 w) := by
  obtain ⟨i0, hi, hz0, hz1, hz2⟩ := info_parts Try.infoV
  have HC := Lib.hid (check_any A n c l w hr 0 (.inl ⟨h, rfl⟩))
  have HX := Lib.hid fun W => mayWrite_any x W
  have HF := Lib.hid fun W => fits_any g s W hs
  have HI := Lib.hid fun W (hb : Below w.heap.size w W) => isFirst_any A n c l x W (hr.below hb)
  have HG := Lib.hid fun W (hb : Below w.heap.size w W) => mayGrow_any A n c l m W (hr.below hb) (by have := h.1; have := hr.len; omega)
  have HW := Lib.hid fun W (hb : Below w.heap.size w W) => without_any A n c l x W (hr.below hb)
  have hwl : (wout x l).length ≤ 64 := (h.wout x).1
  obtain ⟨h1, h2, h3⟩ := wrE_parts hE
  rw [h1] at HX
  rw [h2] at HF
  clear hr h hE h1 h2
  generalize wout x l = r at *
  have hrun : ∀ w1 : World, Below w.heap.size w w1 → True := fun _ _ => trivial
  by_cases hI : fstB x l = true
  · rw [hI] at HI
    clear h3 HG
    go_enter Try.func12, Try.ntmps12
    go_upto_region 12 with (first | (go_at_call 10; (with_reducible refine HC.out.mono ?_); rintro e w1 ⟨rfl, hb1⟩; have HB1 := Lib.hid hb1; clear hb1) | (go_at_call 24; (with_reducible refine (HX.out _).mono ?_); rintro e w1 ⟨rfl, rfl⟩) | (go_at_call 25; (with_reducible refine (HF.out _).mono ?_); rintro e w1 ⟨rfl, rfl⟩) | (go_at_call 26; (with_reducible refine (HI.out _ HB1.out).mono ?_); rintro e w2 ⟨rfl, hb2⟩; have HB2 := Lib.hid (thn HB1.out hb2); clear hb2))
    have ho := World.ownsRow_lit (base := w.heap.size) (e := 41) (size := 4) w2 #[.int .i64 0, .int .i64 x, .bool g, .string s] 1 HB2.out.size (by unfold maxLen; omega) rfl
    have HO := Lib.hid ho
    have HB3 := Lib.hid (thn HB2.out (below1 w2 (.cells #[.int .i64 0, .int .i64 x, .bool g, .string s] 41)))
    clear ho
    go_upto_region 13 with fail
    generalize w2.alloc (.cells #[.int .i64 0, .int .i64 x, .bool g, .string s] 41) = w4 at HO HB3 ⊢
    generalize w2.heap.size = b at HO ⊢
    go_wp2_with (first | (go_at_call 28; (with_reducible refine (HW.out _ HB3.out).mono ?_); rintro e w5 ⟨A5, n5, c5, rfl, hr5, hb5⟩; have HR5 := Lib.hid hr5; have HO5 := Lib.hid (own_below HO.out hb5); have HB5 := Lib.hid (thn HB3.out hb5); have HN5 := Lib.hid hr5.len; clear hr5 hb5) | (at_builtin; refine wpList_appendR rfl _ _ 24 rfl w.heap.size 41 i0 (.agg #[.int .i64 0, .int .i64 0, .bool false, .string ⟨#[]⟩]) 40 Try.underlying24 hi hz0 hz1 hz2 rfl _ 1 _ rfl HO5.out A5 n5 c5 r rfl HR5.out (by have := HN5.out; unfold maxLen; omega) (by have := HN5.out; omega) HB5.out.size ?_; intro v6 w6 hown6 hg6 _; obtain ⟨A6, c6, rfl, hr6⟩ := Rd.of_own (l := new x g s hs :: r) hown6; have HR6 := Lib.hid hr6; have HB6 := Lib.hid (HB5.out.grown hg6 HB5.out.size (fun k hk => (HO5.out.lt k hk).1)); have HN6 := Lib.hid hr6.len; clear hown6 hg6 hr6) | (go_at_call 18; (with_reducible refine (fresh_x _ _ _ _ _ HR6.out (by have := HN5.out; have := HN6.out; simp at this; omega)).mono ?_); rintro e w7 ⟨g7, rfl, hr7, hg7, hl7, hb7⟩; have HR7 := Lib.hid hr7; have HB7 := Lib.hid (thn HB6.out hb7); clear hr7 hg7 hl7 hb7))
    go_ret2
    exact HR7.out.pair (by simp; omega) HB7.out
  · have hI' : fstB x l = false := by simpa using hI
    rw [hI'] at HI
    have h0 := h3.resolve_left hI
    rw [h0] at HG
    clear h3 h0
    go_enter Try.func12, Try.ntmps12
    go_upto_region 12 with (first | (go_at_call 10; (with_reducible refine HC.out.mono ?_); rintro e w1 ⟨rfl, hb1⟩; have HB1 := Lib.hid hb1; clear hb1) | (go_at_call 24; (with_reducible refine (HX.out _).mono ?_); rintro e w1 ⟨rfl, rfl⟩) | (go_at_call 25; (with_reducible refine (HF.out _).mono ?_); rintro e w1 ⟨rfl, rfl⟩) | (go_at_call 26; (with_reducible refine (HI.out _ HB1.out).mono ?_); rintro e w2 ⟨rfl, hb2⟩; have HB2 := Lib.hid (thn HB1.out hb2); clear hb2) | (go_at_call 27; (with_reducible refine (HG.out _ HB2.out).mono ?_); rintro e w3 ⟨rfl, hb3⟩; have HB2b := Lib.hid (thn HB2.out hb3); clear hb3))
    have ho := World.ownsRow_lit (base := w.heap.size) (e := 41) (size := 4) w3 #[.int .i64 0, .int .i64 x, .bool g, .string s] 1 HB2b.out.size (by unfold maxLen; omega) rfl
    have HO := Lib.hid ho
    have HB3 := Lib.hid (thn HB2b.out (below1 w3 (.cells #[.int .i64 0, .int .i64 x, .bool g, .string s] 41)))
    clear ho
    go_upto_region 13 with fail
    generalize w3.alloc (.cells #[.int .i64 0, .int .i64 x, .bool g, .string s] 41) = w4 at HO HB3 ⊢
    generalize w3.heap.size = b at HO ⊢
    go_wp2_with (first | (go_at_call 28; (with_reducible refine (HW.out _ HB3.out).mono ?_); rintro e w5 ⟨A5, n5, c5, rfl, hr5, hb5⟩; have HR5 := Lib.hid hr5; have HO5 := Lib.hid (own_below HO.out hb5); have HB5 := Lib.hid (thn HB3.out hb5); have HN5 := Lib.hid hr5.len; clear hr5 hb5) | (at_builtin; refine wpList_appendR rfl _ _ 24 rfl w.heap.size 41 i0 (.agg #[.int .i64 0, .int .i64 0, .bool false, .string ⟨#[]⟩]) 40 Try.underlying24 hi hz0 hz1 hz2 rfl _ 1 _ rfl HO5.out A5 n5 c5 r rfl HR5.out (by have := HN5.out; unfold maxLen; omega) (by have := HN5.out; omega) HB5.out.size ?_; intro v6 w6 hown6 hg6 _; obtain ⟨A6, c6, rfl, hr6⟩ := Rd.of_own (l := new x g s hs :: r) hown6; have HR6 := Lib.hid hr6; have HB6 := Lib.hid (HB5.out.grown hg6 HB5.out.size (fun k hk => (HO5.out.lt k hk).1)); have HN6 := Lib.hid hr6.len; clear hown6 hg6 hr6) | (go_at_call 18; (with_reducible refine (fresh_x _ _ _ _ _ HR6.out (by have := HN5.out; have := HN6.out; simp at this; omega)).mono ?_); rintro e w7 ⟨g7, rfl, hr7, hg7, hl7, hb7⟩; have HR7 := Lib.hid hr7; have HB7 := Lib.hid (thn HB6.out hb7); clear hr7 hg7 hl7 hb7))
    go_ret2
    exact HR7.out.pair (by simp; omega) HB7.out
end Go.Proofs.Ytclcidcjeoajaaa
