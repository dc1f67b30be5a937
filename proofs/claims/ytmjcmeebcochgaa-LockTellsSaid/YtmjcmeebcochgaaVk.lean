/- Read, Drop and Widen of package lock over any state: the walks. Conditions: a state that is read in memory. -/
import Derived.Test.YtmjcmeebcochgaaVj
namespace Go.Proofs.Ytmjcmeebcochgaa
open Go.RowKit Go.Sort Go.Maps
set_option linter.unusedSimpArgs false
set_option linter.unusedVariables false

/-- What a call has laid: the state, the answer. -/
structure Frn (w W : World) (gs gr : Nat) (A : Option Addr) (n c : Nat) : Prop where
  s : W.cell? ⟨gs, 0, none⟩ = some (.slice A n c)
  r : W.cell? ⟨gr, 0, none⟩ = some (.slice none 0 0)
  f : W.frozen? ⟨gr, 0, none⟩ = false
  b : Below w.heap.size w W
  g : w.heap.size ≤ gr
theorem Frn.below {w W W' : World} {gs gr : Nat} {A : Option Addr} {n c : Nat} (h : Frn w W gs gr A n c) (hb : Below W.heap.size W W') : Frn w W' gs gr A n c :=
  ⟨cell_keep h.s hb, cell_keep h.r hb, (hb.frozen (p := ⟨gr, 0, none⟩) (cell_lt h.r)).trans h.f, thn h.b hb, h.g⟩
theorem Frn.new (w : World) (A : Option Addr) (n c : Nat) : Frn w ((w.alloc (.cells #[.slice A n c] 29)).alloc (.cells #[.slice none 0 0] 29)) w.heap.size (w.heap.size + 1) A n c := by
  have b1 := below1 w (.cells #[.slice A n c] 29)
  have b2 := below1 (w.alloc (.cells #[.slice A n c] 29)) (.cells #[.slice none 0 0] 29)
  have e1 : (w.alloc (.cells #[.slice A n c] 29)).heap.size = w.heap.size + 1 := by simp
  exact ⟨cell_keep (cell_last w _ _ _ 0 rfl) b2, cell_last _ _ _ _ 0 e1.symm, World.frozen?_alloc_at _ _ _ 0 e1.symm, thn b1 b2, by omega⟩
theorem Frn.none_ {w W : World} {gs gr : Nat} {A : Option Addr} {n c : Nat} {E : Int} (h : Frn w W gs gr A n c) : PairS [] E w (.returned (.tuple #[.agg #[.slice none 0 0], .int .i64 E])) (W.setCell ⟨gr, 0, none⟩ (.slice none 0 0)) :=
  PairS.nil (h.b.setCell (p := ⟨gr, 0, none⟩) h.g _)
theorem Frn.some_ {w W W' : World} {gs gr g : Nat} {A : Option Addr} {n c : Nat} {l : List Lk} (h : Frn w W gs gr A n c) (hr : Row W' g l) (hg : W.heap.size ≤ g) (hb : Below W.heap.size W W') (hl : l.length ≤ 1000000) : PairS l 0 w (.returned (.tuple #[.agg #[.slice (some ⟨g, 0, none⟩) l.length l.length], .int .i64 0])) (W'.setCell ⟨gr, 0, none⟩ (.slice (some ⟨g, 0, none⟩) l.length l.length)) :=
  ⟨_, _, _, rfl, (hr.other _ _ (by have := cell_lt h.r; simp at this ⊢; omega)).rd rfl (by omega), (thn h.b hb).setCell (p := ⟨gr, 0, none⟩) h.g _⟩
/-- A store over a cell that holds a slice spoils no lock. -/
theorem Rd.slot {w : World} {A : Option Addr} {n c : Nat} {l : List Lk} (h : Rd w A n c l) {p : Addr} {B : Option Addr} {m d : Nat} (hp : w.cell? p = some (.slice B m d)) (u : Value) : Rd (w.setCell p u) A n c l :=
  ⟨h.len, h.le, h.cap, h.nil, fun ad e j v hj => by
    obtain ⟨c0, c1, c2⟩ := h.cells ad e j v hj
    refine ⟨(World.cell?_setCell_other w p _ u fun e => ?_).trans c0, (World.cell?_setCell_other w p _ u fun e => ?_).trans c1, (World.cell?_setCell_other w p _ u fun e => ?_).trans c2⟩
    · rw [← e, hp] at c0; cases c0
    · rw [← e, hp] at c1; cases c1
    · rw [← e, hp] at c2; cases c2⟩
/-- The key and 00. -/
theorem key0_size (k : Key) (h : k.s.size + 1 ≤ 140737488355328) : (k.s ++ ⟨#[0]⟩ : ByteArray).size ≤ 140737488355328 := by
  rw [ByteArray.size_append]
  exact h
def rdL (t : Int) (k : Key) (h : k.s.size + 1 ≤ 140737488355328) : Lk := ⟨t, k, ⟨k.s ++ ⟨#[0]⟩, key0_size k h⟩⟩
set_option maxRecDepth 100000 in
set_option maxHeartbeats 8000000 in
theorem read_any (A : Option Addr) (n c : Nat) (l : List Lk) (t : Int) (k : Key) (h : k.s.size + 1 ≤ 140737488355328) (w : World) (hr : Rd w A n c l) :
    Calls Try.prog 12 #[.agg #[.slice A n c], .int .i64 t, .string k.s] w (PairS (addR l (rdL t k h)).1 (addR l (rdL t k h)).2 w) := by
  have HF0 := Lib.hid (Frn.new w A n c)
  have HA := Lib.hid fun W (hb : Below w.heap.size w W) => add_any A n c l (rdL t k h) W (hr.below hb)
  unfold rdL at HA
  have HH := Lib.hid h
  have HE : Hid (addR l (rdL t k h) = addR l ⟨t, k, ⟨k.s ++ ⟨#[0]⟩, key0_size k h⟩⟩) := Lib.hid rfl
  rw [HE.out]
  clear HE
  generalize addR l ⟨t, k, ⟨k.s ++ ⟨#[0]⟩, key0_size k h⟩⟩ = R at *
  obtain ⟨m, E⟩ := R
  simp only at HA ⊢
  clear hr
  go_enter Try.func12, Try.ntmps12
  go_upto_region 1 with fail
  generalize (w.alloc (.cells #[.slice A n c] 29)).alloc (.cells #[.slice none 0 0] 29) = W0 at *
  generalize w.heap.size + 1 = gr at *
  have hs := HF0.out.s
  go_wp2_with (go_at_call 10; (with_reducible refine (HA.out _ HF0.out.b).mono ?_); rintro e w1 ⟨A1, n1, c1, rfl, hr1, hb⟩; have HF1 := Lib.hid (HF0.out.below hb); have HR1 := Lib.hid hr1; have hq1 := HF1.out.r; have hf1 := HF1.out.f; have r0 := set_same (.slice A1 n1 c1) hq1; clear hb hr1)
  exact bodyPost_ret (v := .tuple #[.agg #[.slice A1 n1 c1], .int .i64 E]) (by simp [results, Try.results12, go_sem, r0]) rfl ⟨A1, n1, c1, rfl, HR1.out.slot hq1 _, HF1.out.b.setCell (p := ⟨gr, 0, none⟩) HF1.out.g _⟩

/-- ownedBy, its cell under a name. -/
def OwnF (t : Int) (w : World) (e : Ending) (w' : World) : Prop := ∃ q, e = .returned (.func (.func 52) #[] #[.pointer (some q)]) ∧ w'.cell? q = some (.int .i64 t) ∧ Below w.heap.size w w'
theorem ownedBy_x (t : Int) (w : World) : Calls Try.prog 41 #[.int .i64 t] w (OwnF t w) :=
  (ownedBy_any t w).mono fun e w' ⟨h1, h2⟩ => ⟨_, h1, by rw [← h2]; exact cell_last w _ _ _ 0 rfl, by rw [← h2]; exact below1 _ _⟩
theorem parted_use {A : Option Addr} {n c : Nat} {l : List Lk} {w : World} (t : Int) (hr : Rd w A n c l) (h : Ok l) (q : Addr) (W : World) (hb : Below w.heap.size w W) (hc : W.cell? q = some (.int .i64 t)) :
    Calls Try.prog 40 #[.slice A n c, .func (.func 52) #[] #[.pointer (some q)]] W (PartX (ownB t) l W) :=
  parted_own t q A n c l W (hr.below hb) (by have := h.1; have := hr.len; omega) hc
set_option maxRecDepth 100000 in
set_option maxHeartbeats 8000000 in
theorem drop_bad (A : Option Addr) (n c : Nat) (l : List Lk) (t : Int) (w : World) (hr : Rd w A n c l) (h : ¬ Ok l) :
    Calls Try.prog 16 #[.agg #[.slice A n c], .int .i64 t] w (PairS [] 9 w) := by
  have HF0 := Lib.hid (Frn.new w A n c)
  have HC := Lib.hid fun W (hb : Below w.heap.size w W) => check_any A n c l W (hr.below hb)
  rw [chk_bad h] at HC
  clear hr h
  go_enter Try.func16, Try.ntmps16
  go_upto_region 1 with fail
  generalize (w.alloc (.cells #[.slice A n c] 29)).alloc (.cells #[.slice none 0 0] 29) = W0 at *
  generalize w.heap.size + 1 = gr at *
  have hs := HF0.out.s
  go_upto_region 3 with (go_at_call 22; (with_reducible refine (HC.out _ HF0.out.b).mono ?_); rintro e w1 ⟨rfl, hb⟩; have HF1 := Lib.hid (HF0.out.below hb); clear hb)
  have hr1 := HF1.out.r
  have hf1 := HF1.out.f
  have r0 := set_same (.slice none 0 0) hr1
  go_wp2
  exact bodyPost_ret (v := .tuple #[.agg #[.slice none 0 0], .int .i64 9]) (by simp [results, Try.results16, go_sem, r0]) rfl HF1.out.none_
set_option maxRecDepth 100000 in
set_option maxHeartbeats 8000000 in
theorem drop_ok (A : Option Addr) (n c : Nat) (l : List Lk) (t : Int) (w : World) (hr : Rd w A n c l) (h : Ok l) :
    Calls Try.prog 16 #[.agg #[.slice A n c], .int .i64 t] w (PairS (l.filter fun a => !ownB t a) 0 w) := by
  have HF0 := Lib.hid (Frn.new w A n c)
  have HC := Lib.hid fun W (hb : Below w.heap.size w W) => check_any A n c l W (hr.below hb)
  rw [chk_good h] at HC
  have HP := Lib.hid fun q W (hb : Below w.heap.size w W) (hc : W.cell? q = some (.int .i64 t)) => parted_use t hr h q W hb hc
  unfold PartX at HP
  have HO := Lib.hid fun W => ownedBy_x t W
  have hle : (l.filter fun a => !ownB t a).length ≤ 1000000 := Nat.le_trans (List.length_filter_le _ _) (by have := h.1; omega)
  clear hr h
  generalize (l.filter fun a => !ownB t a) = m at *
  have HLE := Lib.hid hle
  clear hle
  go_enter Try.func16, Try.ntmps16
  go_upto_region 1 with fail
  generalize (w.alloc (.cells #[.slice A n c] 29)).alloc (.cells #[.slice none 0 0] 29) = W0 at *
  generalize w.heap.size + 1 = gr at *
  have hs := HF0.out.s
  go_upto_region 4 with (go_at_call 22; (with_reducible refine (HC.out _ HF0.out.b).mono ?_); rintro e w1 ⟨rfl, hb⟩; have HF1 := Lib.hid (HF0.out.below hb); clear hb)
  clear hs HF0 HC
  have hs := HF1.out.s
  have HSO := Lib.hid fun W' (hb : Below w1.heap.size w1 W') => (show Below w1.heap.size w1 W' ∧ W'.cell? ⟨w.heap.size, 0, none⟩ = some (.slice A n c) from ⟨hb, cell_keep hs hb⟩)
  have hbW := (Below.refl w1.heap.size w1).drew
  clear hs
  go_region_held3 (fun W' => Below w1.heap.size w1 W' ∧ W'.cell? ⟨w.heap.size, 0, none⟩ = some (.slice A n c))
    (first | exact HSO.out _ hbW | exact HSO.out _ hq2)
    (first | (go_at_call 41; (with_reducible refine (HO.out _).mono ?_); rintro e w5 ⟨q, rfl, hqc, hb⟩; have hq2 : Below w1.heap.size w1 w5 := thn (And.left ‹Below w1.heap.size w1 _ ∧ _›) hb; clear hb) | (go_at_call 40; refine (HP.out _ _ (thn HF1.out.b (And.left ‹Below w1.heap.size w1 _ ∧ _›)) hqc).mono ?_; rintro e w6 ⟨m6, o6, rfl, ho6, hb6⟩; have hq2 : Below w1.heap.size w1 w6 := thn (And.left ‹Below w1.heap.size w1 _ ∧ _›) hb6; clear hb6))
  obtain ⟨A6, c6, rfl, hr6⟩ := Rd.of_own (l := m) ho6.o_own
  have HF6 := Lib.hid (HF1.out.below hq2)
  have HR6 := Lib.hid hr6
  clear ho6 hr6 hq2 hbW HSO HF1 hqc
  go_wp2_with (go_at_call 29; (with_reducible refine (fresh_any A6 m.length c6 m _ HR6.out HLE.out).mono ?_); rintro e w7 ⟨g, rfl, hrw, hg, hgl, hb⟩; have HF7 := Lib.hid (HF6.out.below hb); have HR7 := Lib.hid (HF6.out.some_ hrw hg hb HLE.out); have hr4 := HF7.out.r; have hf4 := HF7.out.f; have r0 := set_same (.slice (some ⟨g, 0, none⟩) m.length m.length) hr4; clear hrw hg hb)
  exact bodyPost_ret (v := .tuple #[.agg #[.slice (some ⟨g, 0, none⟩) m.length m.length], .int .i64 0]) (by simp [results, Try.results16, go_sem, r0]) rfl HR7.out
/-- Drop at every state. -/
theorem drop_any (A : Option Addr) (n c : Nat) (l : List Lk) (t : Int) (w : World) (hr : Rd w A n c l) :
    Calls Try.prog 16 #[.agg #[.slice A n c], .int .i64 t] w (PairS (drpR l t).1 (drpR l t).2 w) := by
  unfold drpR
  by_cases h : Ok l
  · simp only [h, if_true]
    exact drop_ok A n c l t w hr h
  · simp only [h, if_false]
    exact drop_bad A n c l t w hr h
end Go.Proofs.Ytmjcmeebcochgaa
