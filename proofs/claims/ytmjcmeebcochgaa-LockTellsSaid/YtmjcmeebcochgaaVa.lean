/- What the small functions of package lock answer for any lock: the walks. Conditions: texts that every machine keeps. -/
import Derived.Test.YtmjcmeebcochgaaChecked
import Derived.Test.YtmjcmeebcochgaaMa
import Derived.Test.YtmjcmeebcochgaaSh
import Derived.WalkKit
import Derived.WalkSpells
import Derived.WalkLawsBesides
import Derived.Deep.QuietTactic
import Derived.BigQuiet
import Derived.Deep.RegionHeld3
import Derived.Deep.DeepCutAuto
import Derived.Deep.Light
import Derived.Lib.Hide
import Derived.Lib.QuietBelow
import Derived.StillTailTactics
import Derived.Maps.AppendAt
import Derived.IntWalk
import Derived.Lib.Bytealg
namespace Go.Proofs.Ytmjcmeebcochgaa
open Go.RowKit
set_option linter.unusedSimpArgs false
set_option linter.unusedVariables false

theorem below1 (w : World) (o : Obj) : Below w.heap.size w (w.alloc o) := (Below.refl _ _).alloc (Nat.le_refl _) o
theorem below2 (w : World) (o p : Obj) : Below w.heap.size w ((w.alloc o).alloc p) := (below1 w o).alloc (by simp) p
theorem ret_bool {a b : Bool} (h : a = b) : Ending.returned (.bool a) = .returned (.bool b) := by rw [h]
theorem ret_int {k : IntKind} {a b : Int} (h : a = b) : Ending.returned (.int k a) = .returned (.int k b) := by rw [h]
theorem bcell {W w1 : World} (hb : Below W.heap.size W w1) : (∀ b o, b < W.heap.size → w1.cell? ⟨b, o, none⟩ = W.cell? ⟨b, o, none⟩) ∧ (∀ b o, b < W.heap.size → w1.frozen? ⟨b, o, none⟩ = W.frozen? ⟨b, o, none⟩) :=
  ⟨fun b o h => hb.cell (p := ⟨b, o, none⟩) h, fun b o h => hb.frozen (p := ⟨b, o, none⟩) h⟩
theorem thn {a b c : World} (h : Below a.heap.size a b) (k : Below b.heap.size b c) : Below a.heap.size a c := h.trans (k.mono h.size)
theorem cell_last (W : World) (cs : Array Value) (t g o : Nat) (hg : g = W.heap.size) : (W.alloc (.cells cs t)).cell? ⟨g, o, none⟩ = cs[o]? := by
  subst hg; exact World.cell?_alloc_mark W cs t (0, 0) o
theorem cell_lt {w : World} {p : Addr} {v : Value} (h : w.cell? p = some v) : p.block < w.heap.size := World.block_lt_of_cell? w _ h
theorem cell_keep {w w' : World} {p : Addr} {v : Value} (h : w.cell? p = some v) (hb : Below w.heap.size w w') : w'.cell? p = some v := (hb.cell (cell_lt h)).trans h
theorem box3 {wr w2 : World} {a b c : Value} {t : TypeId} (hb : Below (wr.alloc (.cells #[a, b, c] t)).heap.size (wr.alloc (.cells #[a, b, c] t)) w2) :
    w2.cell? ⟨wr.heap.size, 0, none⟩ = some a ∧ w2.cell? ⟨wr.heap.size, 1, none⟩ = some b ∧ w2.cell? ⟨wr.heap.size, 2, none⟩ = some c ∧ Below wr.heap.size wr w2 ∧ wr.heap.size < w2.heap.size := by
  have hz := hb.size
  simp only [World.size_alloc] at hz
  refine ⟨?_, ?_, ?_, (below1 _ _).trans (hb.mono (by simp)), by omega⟩
  · rw [hb.cell (p := ⟨wr.heap.size, 0, none⟩) (by simp), cell_last _ _ _ _ _ rfl]; rfl
  · rw [hb.cell (p := ⟨wr.heap.size, 1, none⟩) (by simp), cell_last _ _ _ _ _ rfl]; rfl
  · rw [hb.cell (p := ⟨wr.heap.size, 2, none⟩) (by simp), cell_last _ _ _ _ _ rfl]; rfl
theorem leq_dec (x y : Key) : (Op.bytesLess x.s.toList y.s.toList || x.s.toList == y.s.toList) = decide (x ≤ y) := by
  rw [less_dec, eq_dec, Bool.eq_iff_iff]
  simp only [Bool.or_eq_true, decide_eq_true_eq]
  grind
@[reducible] def lkC (x : Lk) : List Value := [.int .i64 x.t, .string x.lo.s, .string x.hi.s]

set_option maxHeartbeats 400000 in
theorem ends_any (x : Lk) (k : Key) (w : World) :
    Calls Try.prog 38 #[.agg #[.int .i64 x.t, .string x.lo.s, .string x.hi.s], .string k.s] w fun e w' => e = .returned (.bool (ends x k)) ∧ Below w.heap.size w w' := by
  obtain ⟨t, lo, hi⟩ := x
  have he : ends ⟨t, lo, hi⟩ k = (hi.s.toList.isEmpty || Op.bytesLess k.s.toList hi.s.toList) := by rw [less_dec, no_dec]; rfl
  rw [he]
  clear he
  cases hE : hi.s.toList.isEmpty
  all_goals
    go_enter Try.func38, Try.ntmps38
    go_wp2
    all_goals go_ret
    all_goals exact ⟨ret_bool (by simp), below1 _ _⟩
set_option maxHeartbeats 400000 in
theorem goes_any (x : Lk) (k : Key) (w : World) :
    Calls Try.prog 50 #[.agg #[.int .i64 x.t, .string x.lo.s, .string x.hi.s], .string k.s] w fun e w' => e = .returned (.bool (goes x k)) ∧ Below w.heap.size w w' := by
  have HE := Lib.hid fun W => ends_any x k W
  have he : goes x k = (ends x k || x.hi.s.toList == k.s.toList) := by rw [eq_dec]; rfl
  rw [he]
  clear he
  generalize ends x k = E at *
  obtain ⟨t, lo, hi⟩ := x
  cases E
  all_goals
    go_enter Try.func50, Try.ntmps50
    go_wp2_with (go_at_call 38; (with_reducible refine (HE.out _).mono ?_); rintro e w1 ⟨rfl, hb1⟩; obtain ⟨b0, b1, b2, hb1', hz1⟩ := box3 hb1; have HB1 := Lib.hid hb1'; clear hb1 hb1')
    all_goals go_ret
    all_goals exact ⟨ret_bool (by simp), HB1.out⟩
set_option maxHeartbeats 1000000 in
theorem mayBe_any (x : Lk) (w : World) :
    Calls Try.prog 26 #[.agg #[.int .i64 x.t, .string x.lo.s, .string x.hi.s]] w fun e w' => e = .returned (.bool (mayL x)) ∧ Below w.heap.size w w' := by
  have HE := Lib.hid fun W => ends_any x x.lo W
  unfold mayL
  generalize ends x x.lo = E at *
  obtain ⟨t, lo, hi⟩ := x
  simp only at HE ⊢
  by_cases h1 : 1 ≤ t
  · by_cases h2 : t ≤ 1099511627776
    · go_enter Try.func26, Try.ntmps26
      go_wp2_with (go_at_call 38; (with_reducible refine (HE.out _).mono ?_); rintro e w1 ⟨rfl, hb1⟩; have HB1 := Lib.hid (box3 hb1).2.2.2.1; clear hb1)
      all_goals go_ret
      all_goals exact ⟨ret_bool (by simp [h1, h2]), HB1.out⟩
    · go_enter Try.func26, Try.ntmps26
      go_wp2_with fail
      all_goals go_ret
      all_goals exact ⟨ret_bool (by rw [decide_eq_false (show ¬ t ≤ 1099511627776 by omega)]; simp), below1 _ _⟩
  · go_enter Try.func26, Try.ntmps26
    go_wp2_with fail
    all_goals go_ret
    all_goals exact ⟨ret_bool (by rw [decide_eq_false (show ¬ 1 ≤ t by omega)]; simp), below1 _ _⟩

def ordI (a b : Int) : Int := if a < b then -1 else if a = b then 0 else 1
def ordK (a b : Key) : Int := if a < b then -1 else if a = b then 0 else 1
theorem compB : ∀ (x y : List UInt8), Lib.compareBytes x y = if x < y then -1 else if x = y then 0 else 1
  | [], [] => by simp [Lib.compareBytes]
  | [], _ :: _ => by simp [Lib.compareBytes]
  | _ :: _, [] => by simp [Lib.compareBytes]
  | a :: x, b :: y => by
    have ih := compB x y
    rw [Lib.compareBytes]
    grind [List.cons_lt_cons_iff]
theorem ordK_eq (a b : Key) : Lib.compareBytes a.s.data.toList b.s.data.toList = ordK a b := by
  rw [compB]
  have h1 : a < b ↔ a.s.data.toList < b.s.data.toList := by rw [lt_def, ByteArray.toList_eq, ByteArray.toList_eq]
  have h2 : a = b ↔ a.s.data.toList = b.s.data.toList := by rw [← key_eq, ByteArray.toList_eq, ByteArray.toList_eq]
  unfold ordK
  simp only [h1, h2]
set_option maxHeartbeats 400000 in
theorem cmpI_any (a b : Int) (w : World) :
    Calls Try.prog 54 #[.int .i64 a, .int .i64 b] w fun e w' => e = .returned (.int .i64 (ordI a b)) ∧ w = w' := by
  go_enter Try.func54, Try.ntmps54
  go_wp2
  all_goals go_ret
  all_goals exact ⟨ret_int (by unfold ordI; first | rw [if_pos (by omega)] | rw [if_neg (by omega), if_pos (by omega)] | rw [if_neg (by omega), if_neg (by omega)]), rfl⟩
theorem cmpS_any (a b : Key) (w : World) :
    Calls Try.prog 55 #[.string a.s, .string b.s] w fun e w' => e = .returned (.int .i64 (ordK a b)) ∧ w = w' := by
  refine (Try.strings_Compare a.s b.s w).mono fun e w' ⟨h1, h2⟩ => ⟨?_, h2.symm⟩
  rw [h1, ordK_eq]
set_option maxHeartbeats 400000 in
theorem order_any (a b : Key) (w : World) :
    Calls Try.prog 45 #[.string a.s, .string b.s] w fun e w' => e = .returned (.int .i64 (ordE a b)) ∧ w = w' := by
  have HC := Lib.hid fun W => cmpS_any a b W
  have h0 := eq_dec a b
  have h1 := no_dec a
  have h2 := no_dec b
  have hE : ordE a b = if a.s.toList == b.s.toList then 0 else if a.s.toList.isEmpty then 1 else if b.s.toList.isEmpty then -1 else ordK a b := by
    rw [h0, h1, h2]
    unfold ordE ordK
    grind
  clear h0 h1 h2
  rw [hE]
  clear hE
  cases e0 : a.s.toList == b.s.toList
  · cases e1 : a.s.toList.isEmpty
    · cases e2 : b.s.toList.isEmpty
      all_goals
        go_enter Try.func45, Try.ntmps45
        go_wp2_with (go_at_call 55; (with_reducible refine (HC.out _).mono ?_); rintro e w1 ⟨rfl, rfl⟩)
        all_goals go_ret
        all_goals exact ⟨ret_int (by simp), rfl⟩
    · go_enter Try.func45, Try.ntmps45
      go_wp2_with fail
      all_goals go_ret
      all_goals exact ⟨ret_int (by simp), rfl⟩
  · go_enter Try.func45, Try.ntmps45
    go_wp2_with fail
    all_goals go_ret
    all_goals exact ⟨ret_int (by simp), rfl⟩
set_option maxHeartbeats 1000000 in
theorem within_any (x l : Lk) (w : World) :
    Calls Try.prog 28 #[.agg #[.int .i64 x.t, .string x.lo.s, .string x.hi.s], .agg #[.int .i64 l.t, .string l.lo.s, .string l.hi.s]] w fun e w' => e = .returned (.bool (witB x l)) ∧ Below w.heap.size w w' := by
  have HO := Lib.hid fun W => order_any x.hi l.hi W
  have hw : witB x l = (decide (l.t = x.t) && (Op.bytesLess l.lo.s.toList x.lo.s.toList || l.lo.s.toList == x.lo.s.toList) && decide (ordE x.hi l.hi ≤ 0)) := by rw [leq_dec]; rfl
  rw [hw]
  clear hw
  generalize ordE x.hi l.hi = E at *
  obtain ⟨t, lo, hi⟩ := x
  obtain ⟨t', lo', hi'⟩ := l
  simp only at HO ⊢
  by_cases h1 : t' = t
  · cases hL : (Op.bytesLess lo'.s.toList lo.s.toList || lo'.s.toList == lo.s.toList)
    · go_enter Try.func28, Try.ntmps28
      go_wp2_with fail
      all_goals go_ret
      all_goals exact ⟨ret_bool (by simp), below2 _ _ _⟩
    · go_enter Try.func28, Try.ntmps28
      go_wp2_with (go_at_call 45; (with_reducible refine (HO.out _).mono ?_); rintro e w1 ⟨rfl, rfl⟩)
      all_goals go_ret
      all_goals exact ⟨ret_bool (by simp [h1]), below2 _ _ _⟩
  · go_enter Try.func28, Try.ntmps28
    go_wp2_with fail
    all_goals go_ret
    all_goals exact ⟨ret_bool (by simp [h1]), below2 _ _ _⟩
/-- The three cells of a lock at p. -/
def Cell3 (w : World) (p : Addr) (v : Lk) : Prop := w.cell? p = some (.int .i64 v.t) ∧ w.cell? ⟨p.block, p.off + 1, none⟩ = some (.string v.lo.s) ∧ w.cell? ⟨p.block, p.off + 2, none⟩ = some (.string v.hi.s)
theorem Cell3.lt {w : World} {p : Addr} {v : Lk} (h : Cell3 w p v) : p.block < w.heap.size := cell_lt h.1
theorem Cell3.below {w w' : World} {p : Addr} {v : Lk} (h : Cell3 w p v) (hb : Below w.heap.size w w') : Cell3 w' p v :=
  ⟨cell_keep h.1 hb, cell_keep h.2.1 hb, cell_keep h.2.2 hb⟩
set_option maxHeartbeats 1000000 in
theorem owns_any (l : Lk) (t : Int) (p : Addr) (w : World) (hp : w.cell? p = some (.int .i64 t)) :
    Calls Try.prog 52 #[.agg #[.int .i64 l.t, .string l.lo.s, .string l.hi.s], .pointer (some p)] w fun e w' => e = .returned (.bool (ownB t l)) ∧ Below w.heap.size w w' := by
  have hq := cell_keep hp (below1 w (.cells #[.int .i64 l.t, .string l.lo.s, .string l.hi.s] 34))
  have hl := cell_lt hp
  go_enter Try.func52, Try.ntmps52
  go_wp2
  all_goals go_ret
  all_goals exact ⟨ret_bool (by unfold ownB; grind), below1 _ _⟩
theorem ownedBy_any (t : Int) (w : World) :
    Calls Try.prog 41 #[.int .i64 t] w fun e w' => e = .returned (.func (.func 52) #[] #[.pointer (some ⟨w.heap.size, 0, none⟩)]) ∧ w.alloc (.cells #[.int .i64 t] 3) = w' := by
  go_enter Try.func41, Try.ntmps41
  go_wp2
  go_ret
  exact ⟨rfl, rfl⟩
def inOrd (a b : Lk) : Int := if ordI a.t b.t ≠ 0 then ordI a.t b.t else if ordK a.lo b.lo ≠ 0 then ordK a.lo b.lo else ordE a.hi b.hi
theorem inOrd_lt (a b : Lk) : inOrd a b < 0 ↔ ltL a b := by
  have h := ordE_lt a.hi b.hi
  unfold inOrd ltL ordI ordK
  grind
theorem inOrd_zero (a b : Lk) : inOrd a b = 0 ↔ a = b := by
  have h := ordE_zero a.hi b.hi
  have e : a = b ↔ (a.t = b.t ∧ a.lo = b.lo ∧ a.hi = b.hi) := ⟨fun h => by rw [h]; simp, fun ⟨x, y, z⟩ => Lk.ext' x y z⟩
  rw [e]
  unfold inOrd ordI ordK
  grind
set_option maxHeartbeats 1000000 in
theorem or_any (x y z : Int) (p : Addr) (w : World) (h0 : w.cell? p = some (.int .i64 x)) (h1 : w.cell? ⟨p.block, p.off + 1, none⟩ = some (.int .i64 y)) (h2 : w.cell? ⟨p.block, p.off + 2, none⟩ = some (.int .i64 z)) :
    Calls Try.prog 53 #[.slice (some p) 3 3] w fun e w' => e = .returned (.int .i64 (if x ≠ 0 then x else if y ≠ 0 then y else z)) ∧ Below w.heap.size w w' := by
  have l0 := cell_lt h0
  have hp0 : p.add 0 = p := by unfold Addr.add; rw [if_pos rfl]
  have hp1 : p.add 1 = ⟨p.block, p.off + 1, none⟩ := by unfold Addr.add; rw [if_neg (by decide)]
  have hp2 : p.add 2 = ⟨p.block, p.off + 2, none⟩ := by unfold Addr.add; rw [if_neg (by decide)]
  go_enter Try.func53, Try.ntmps53
  go_wp2
  go_loopw [5, 8] (fun _ i wr => ∃ j : Nat, j ≤ 3 ∧ i = .int .i64 j ∧ (0 < j → x = 0) ∧ (1 < j → y = 0) ∧ (2 < j → z = 0) ∧ Below w.heap.size w wr) (fun _ i _ => 3 - (intOf i).toNat)
  case atStart => exact ⟨0, by omega, rfl, fun h => absurd h (by decide), fun h => absurd h (by decide), fun h => absurd h (by decide), Below.refl _ _⟩
  case round =>
    obtain ⟨j, hj, rfl, g0, g1, g2, hB⟩ := hrel
    have c0 := cell_keep h0 hB
    have c1 := cell_keep h1 hB
    have c2 := cell_keep h2 hB
    have HB := Lib.hid hB
    clear hB
    rcases (show j = 0 ∨ j = 1 ∨ j = 2 ∨ j = 3 by omega) with rfl | rfl | rfl | rfl
    · by_cases hx : x = 0
      · subst hx
        go_wp2
        go_roundw
        case rel => exact ⟨1, by omega, rfl, by simp, fun h => absurd h (by decide), fun h => absurd h (by decide), HB.out⟩
        case measure => simp [intOf]
      · go_wp2
        go_ret
        exact ⟨ret_int (by simp [hx]), HB.out⟩
    · have hx := g0 (by omega)
      subst hx
      by_cases hy : y = 0
      · subst hy
        go_wp2
        go_roundw
        case rel => exact ⟨2, by omega, rfl, by simp, by simp, fun h => absurd h (by decide), HB.out⟩
        case measure => simp [intOf]
      · go_wp2
        go_ret
        exact ⟨ret_int (by simp [hy]), HB.out⟩
    · have hx := g0 (by omega)
      have hy := g1 (by omega)
      subst hx hy
      by_cases hz : z = 0
      · subst hz
        go_wp2
        go_roundw
        case rel => exact ⟨3, by omega, rfl, by simp, by simp, by simp, HB.out⟩
        case measure => simp [intOf]
      · go_wp2
        go_ret
        exact ⟨ret_int (by simp [hz]), HB.out⟩
    · have hx := g0 (by omega)
      have hy := g1 (by omega)
      have hz := g2 (by omega)
      subst hx hy hz
      go_wp2
      go_ret
      exact ⟨ret_int (by simp), HB.out⟩
set_option maxHeartbeats 2000000 in
theorem touches_any (x l : Lk) (p : Addr) (w : World) (hp : Cell3 w p x) :
    Calls Try.prog 49 #[.agg #[.int .i64 l.t, .string l.lo.s, .string l.hi.s], .pointer (some p)] w fun e w' => e = .returned (.bool (touB x l)) ∧ Below w.heap.size w w' := by
  have hq := hp.below (below1 w (.cells #[.int .i64 l.t, .string l.lo.s, .string l.hi.s] 34))
  have HQ := Lib.hid hq
  obtain ⟨c0, c1, c2⟩ := hq
  have hl : p.block < w.heap.size + 1 := by have := hp.lt; omega
  have H1 := Lib.hid fun W => goes_any l x.lo W
  have H2 := Lib.hid fun W => goes_any x l.lo W
  unfold touB
  generalize goes l x.lo = G1 at *
  generalize goes x l.lo = G2 at *
  clear hp
  by_cases ht : l.t = x.t
  · have hb : (l.t == x.t) = true := by simpa using ht
    have HT := Lib.hid ht
    clear ht
    cases G1
    · go_enter Try.func49, Try.ntmps49
      go_wp2_with (go_at_call 50; (with_reducible refine (H1.out _).mono ?_); rintro e w1 ⟨rfl, hb1⟩; have HB1 := Lib.hid (box3 hb1).2.2.2.1; clear hb1)
      all_goals go_ret
      all_goals exact ⟨ret_bool (by simp), HB1.out⟩
    · go_enter Try.func49, Try.ntmps49
      go_wp2_with (go_at_call 50; first | ((with_reducible refine (H2.out _).mono ?_); rintro e w2 ⟨rfl, hb2⟩; have HB2 := Lib.hid (thn HB1.out hb2); clear hb2) | ((with_reducible refine (H1.out _).mono ?_); rintro e w1 ⟨rfl, hb1⟩; obtain ⟨b0, b1, b2, hb1', hz1⟩ := box3 hb1; have HB1 := Lib.hid hb1'; obtain ⟨d0, d1, d2⟩ := HQ.out.below hb1; clear hb1 hb1'))
      all_goals go_ret
      all_goals exact ⟨ret_bool (by simp [HT.out]), HB2.out⟩
  · have hb : (l.t == x.t) = false := by simpa using ht
    go_enter Try.func49, Try.ntmps49
    go_wp2_with fail
    all_goals go_ret
    all_goals exact ⟨ret_bool (by simp [ht]), below1 _ _⟩
theorem touching_any (x : Lk) (w : World) :
    Calls Try.prog 31 #[.agg #[.int .i64 x.t, .string x.lo.s, .string x.hi.s]] w fun e w' => e = .returned (.func (.func 49) #[] #[.pointer (some ⟨w.heap.size, 0, none⟩)]) ∧ w.alloc (.cells #[.int .i64 x.t, .string x.lo.s, .string x.hi.s] 34) = w' := by
  go_enter Try.func31, Try.ntmps31
  go_wp2
  go_ret
  exact ⟨rfl, rfl⟩
end Go.Proofs.Ytmjcmeebcochgaa
