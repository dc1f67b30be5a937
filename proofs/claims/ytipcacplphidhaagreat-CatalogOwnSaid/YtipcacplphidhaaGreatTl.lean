/- What the tally's add does, and what CheckExpr answers: the walks. Conditions: expressions that are read in memory. -/
import Derived.Test.YtipcacplphidhaaGreatTl0
import Derived.Deep.LoopGhost
import Derived.Recover
namespace Go.Proofs.YtipcacplphidhaaGreat.Sy
open Go.RowKit
set_option linter.unusedSimpArgs false
set_option linter.unusedVariables false

theorem grownBy_trans {w w1 w2 : World} {r r' : Option Nat} (h : w.grownBy w1 r) (k : w1.grownBy w2 r') (hr : r' = r ∨ ∀ g, r' = some g → w.heap.size ≤ g) : w.grownBy w2 r := by
  refine ⟨k.os.trans h.os, k.tape.trans h.tape, k.output.trans h.output, Nat.le_trans h.size k.size, fun i hi hne => (k.block i (Nat.lt_of_lt_of_le hi h.size) ?_).trans (h.block i hi hne)⟩
  rcases hr with rfl | hr
  · exact hne
  · intro e; have := hr i e.symm; omega
theorem grownBy_setCell (w : World) (g o : Nat) (v : Value) : w.grownBy (w.setCell ⟨g, o, none⟩ v) (some g) :=
  ⟨rfl, rfl, rfl, by simp [World.setCell], fun k _ hk => Below.heap_setCell _ _ _ _ (fun e => hk (by simp [e]))⟩
theorem below_grown {w w' : World} (h : Below w.heap.size w w') (r : Option Nat) : w.grownBy w' r := ⟨h.os, h.tape, h.output, h.size, fun i hi _ => h.block i hi⟩
theorem grown_below {w0 w w' : World} {g : Nat} (h : Below g w0 w) (hg : w.grownBy w' (some g)) (hz : g ≤ w.heap.size) : Below g w0 w' := h.grown hg hz fun k hk => by injection hk with hk; omega

/-- Block g holds one cell. -/
def One (w : World) (g : Nat) (t : TypeId) (v : Value) : Prop := w.heap[g]? = some (.cells #[v] t (0, 0))
theorem One.lt {w : World} {g : Nat} {t : TypeId} {v : Value} (h : One w g t v) : g < w.heap.size := by
  rcases Nat.lt_or_ge g w.heap.size with h' | h'
  · exact h'
  · unfold One at h; rw [Array.getElem?_eq_none h'] at h; cases h
theorem One.cells {w : World} {g : Nat} {t : TypeId} {v : Value} (h : One w g t v) : w.cell? ⟨g, 0, none⟩ = some v ∧ w.frozen? ⟨g, 0, none⟩ = false := by
  unfold One at h
  simp [World.cell?, World.frozen?, h]
theorem One.below {w w' : World} {g : Nat} {t : TypeId} {v : Value} (h : One w g t v) (hb : Below w.heap.size w w') : One w' g t v := (hb.block g h.lt).trans h
theorem One.set {w : World} {g : Nat} {t : TypeId} {v : Value} (h : One w g t v) (u : Value) : One (w.setCell ⟨g, 0, none⟩ u) g t u := by
  have := heap_setCell_same w g 0 #[v] t u h
  unfold One
  rw [this]
  simp
theorem One.new (w : World) (t : TypeId) (v : Value) : One (w.alloc (.cells #[v] t)) w.heap.size t v := heap_alloc_new w _

/-- The panic of number x. -/
def dies (x : Int) : Ending := .panicked [{ v := .iface 38 (.int .i64 x), recovered := false }]
/-- What add does, R being what comes of its count. -/
def AddPost (R : Nat × Int) (g : Nat) (w : World) (e : Ending) (w' : World) : Prop :=
  w.grownBy w' (some g) ∧ (R.2 = 0 → e = .returned (.tuple #[]) ∧ One w' g 138 (.int .i64 R.1)) ∧ (R.2 ≠ 0 → e = dies R.2)
theorem AddPost.no {R : Nat × Int} {g : Nat} {w w' : World} {c : Nat} {x : Int} (h : R = (c, x)) (hx : x ≠ 0) (hg : w.grownBy w' (some g)) : AddPost R g w (dies x) w' := by
  subst h; exact ⟨hg, fun h => absurd h hx, fun _ => rfl⟩
theorem AddPost.yes {R : Nat × Int} {g : Nat} {w w' : World} {c : Nat} (h : R = (c, 0)) (hg : w.grownBy w' (some g)) (ho : One w' g 138 (.int .i64 c)) : AddPost R g w (.returned (.tuple #[])) w' := by
  subst h; exact ⟨hg, fun _ => ⟨rfl, ho⟩, fun h => absurd rfl h⟩

set_option maxHeartbeats 1000000 in
set_option maxRecDepth 100000 in
theorem add_deep {n : Nat} (x : ExN (Ar n)) (a : Option Addr) (cc lvl c g : Nat) (w : World) (h1 : One w g 138 (.int .i64 c)) (hc : c ≤ 64) (hl : 12 < lvl) (hl' : lvl ≤ 13) :
    Calls Tryz.prog 77 #[.pointer (some ⟨g, 0, none⟩), x.val a cc, .int .i64 lvl] w (AddPost (wkX lvl c x) g w) := by
  have HR := Lib.hid (wkX_deep (c := c) (x := x) hl)
  obtain ⟨op, ⟨k, v, s, hv⟩, t, m, l⟩ := x
  unfold ExN.val
  dsimp only at HR ⊢
  obtain ⟨c0, f0⟩ := h1.cells
  have hlt := h1.lt
  go_enter Tryz.func77, Tryz.ntmps77
  go_wp2
  exact ⟨rfl, AddPost.no HR.out (by decide) (grownBy_trans (grownBy_setCell w g 0 _) (World.grownBy_alloc _ _ _) (.inl rfl))⟩

set_option maxHeartbeats 1000000 in
set_option maxRecDepth 100000 in
theorem add_many {n : Nat} (x : ExN (Ar n)) (a : Option Addr) (cc lvl c g : Nat) (w : World) (h1 : One w g 138 (.int .i64 c)) (hc : c ≤ 64) (hl : lvl ≤ 12) (hc' : 64 ≤ c) :
    Calls Tryz.prog 77 #[.pointer (some ⟨g, 0, none⟩), x.val a cc, .int .i64 lvl] w (AddPost (wkX lvl c x) g w) := by
  have HR := Lib.hid (wkX_many (x := x) (show ¬ 12 < lvl by omega) hc')
  obtain ⟨op, ⟨k, v, s, hv⟩, t, m, l⟩ := x
  unfold ExN.val
  dsimp only at HR ⊢
  obtain ⟨c0, f0⟩ := h1.cells
  have hlt := h1.lt
  go_enter Tryz.func77, Tryz.ntmps77
  go_wp2
  exact ⟨rfl, AddPost.no HR.out (by decide) (grownBy_trans (grownBy_setCell w g 0 _) (World.grownBy_alloc _ _ _) (.inl rfl))⟩

set_option maxHeartbeats 1000000 in
set_option maxRecDepth 100000 in
theorem add_part {n : Nat} (x : ExN (Ar n)) (a : Option Addr) (cc lvl c g : Nat) (w : World) (h1 : One w g 138 (.int .i64 c)) (hl : lvl ≤ 12) (hc' : c < 64) (hp : partB x = false) :
    Calls Tryz.prog 77 #[.pointer (some ⟨g, 0, none⟩), x.val a cc, .int .i64 lvl] w (AddPost (wkX lvl c x) g w) := by
  have HR := Lib.hid (wkX_part (x := x) (show ¬ 12 < lvl by omega) (show ¬ 64 ≤ c by omega) hp)
  have hP := fun w => sisPart_any x a cc w
  rw [hp] at hP
  clear hp
  obtain ⟨op, ⟨k, v, s, hv⟩, t, m, l⟩ := x
  unfold ExN.val at hP ⊢
  dsimp only at HR hP ⊢
  obtain ⟨c0, f0⟩ := h1.cells
  have hlt := h1.lt
  go_enter Tryz.func77, Tryz.ntmps77
  go_wp2_with (go_at_call 85; refine (hP _).mono ?_; rintro e w1 ⟨rfl, hb⟩)
  exact ⟨rfl, AddPost.no HR.out (by decide) (grownBy_trans (grownBy_setCell w g 0 _) (grownBy_trans (World.grownBy_alloc _ _ _) (below_grown hb _) (.inl rfl)) (.inl rfl))⟩

set_option maxHeartbeats 2000000 in
set_option maxRecDepth 100000 in
theorem add_on {n : Nat} (hE : ∀ (y : Ar n) (a : Option Addr) (cc lvl c g : Nat) (w : World), One w g 138 (.int .i64 c) → RdK (KE (n - 1)) (fun b => b < g) w a cc y.e.l → c ≤ 64 → lvl ≤ 13 →
      Calls Tryz.prog 77 #[.pointer (some ⟨g, 0, none⟩), y.e.val a cc, .int .i64 lvl] w (AddPost (wk n lvl c y) g w))
    (x : ExN (Ar n)) (a : Option Addr) (cc lvl c g : Nat) (w : World) (h1 : One w g 138 (.int .i64 c)) (hr : RdK (KE n) (fun b => b < g) w a cc x.l) (hl : lvl ≤ 12) (hc' : c < 64) (hp : partB x = true) :
    Calls Tryz.prog 77 #[.pointer (some ⟨g, 0, none⟩), x.val a cc, .int .i64 lvl] w (AddPost (wkX lvl c x) g w) := by
  have HR := Lib.hid (wkX_on (x := x) (show ¬ 12 < lvl by omega) (show ¬ 64 ≤ c by omega) hp)
  have HL := Lib.hid hr
  have hle : x.l.length ≤ 9223372036854775807 := by have := hr.hdr.2; omega
  have hP := fun w => sisPart_any x a cc w
  rw [hp] at hP
  have hlen : x.l.length ≤ 2 := by
    unfold partB at hp
    simp only [Bool.and_eq_true, decide_eq_true_eq] at hp
    have := hp.1
    unfold argsI at this
    split at this
    · omega
    split at this
    · omega
    split at this <;> omega
  clear hp hr
  obtain ⟨op, ⟨k, v, s, hv⟩, t, m, l⟩ := x
  unfold ExN.val at hP ⊢
  dsimp only at HR hP HL hle hlen ⊢
  obtain ⟨c0, f0⟩ := h1.cells
  have hlt := h1.lt
  have H1 := Lib.hid h1
  go_enter Tryz.func77, Tryz.ntmps77
  go_wp2_with (go_at_call 85; refine (hP _).mono ?_; rintro e w1 ⟨rfl, hb⟩; obtain ⟨hcc, hff⟩ := bcell hb)
  have hG1 := grownBy_trans (grownBy_setCell w g 0 (.int .i64 ((c : Int) + 1))) (grownBy_trans (World.grownBy_alloc _ _ _) (below_grown hb _) (.inl rfl)) (.inl rfl)
  have hO1 : One w1 g 138 (.int .i64 ((c + 1 : Nat) : Int)) := by
    have := ((H1.out.set (.int .i64 ((c : Int) + 1))).below (below1 _ _)).below hb
    simpa using this
  have HG1 := Lib.hid hG1
  have HO1 := Lib.hid hO1
  have HL' : Hid (∀ w', w.grownBy w' (some g) → RdK (KE n) (fun b => b < g) w' a cc l) := Lib.hid fun w' hg => HL.out.kept (KE_ok n) fun b hb' hlt => hg.block b hlt (by simp; omega)
  clear hb hcc hff hP c0 f0 h1 hG1 hO1
  go_loopw [34] (fun i wr => ∃ j cj : Nat, j ≤ l.length ∧ i = .int .i64 j ∧ One wr g 138 (.int .i64 cj) ∧ cj ≤ 64 ∧ wkAll (wk n (lvl + 1)) (c + 1) l = wkAll (wk n (lvl + 1)) cj (l.drop j) ∧ w.grownBy wr (some g)) (fun i _ => l.length - (intOf i).toNat)
  case atStart => exact ⟨0, c + 1, by omega, rfl, HO1.out, by omega, rfl, HG1.out⟩
  case round =>
    obtain ⟨j, cj, hj, rfl, hO, hcj, hw, hG⟩ := hrel
    have HO := Lib.hid hO
    have HW := Lib.hid hw
    have HG := Lib.hid hG
    have hgz := hO.lt
    clear hO hw hG
    by_cases hlt2 : j < l.length
    · obtain ⟨ad, a1, k1, rfl, ⟨p0, p1, p2, p3, p4, p5, p6⟩, r1⟩ := (HL'.out wr HG.out).at_ (j := j) hlt2
      have hx : l[j]? = some l[j] := List.getElem?_eq_getElem hlt2
      generalize l[j] = y at p0 p1 p2 p3 p4 p5 p6 r1 hx
      have HX := Lib.hid hx
      have hc := fun w2 (hb : Below wr.heap.size wr w2) => hE y a1 k1 (lvl + 1) cj g w2 (HO.out.below hb) (r1.below (KE_ok _) hb) hcj (by omega)
      have HS1 : Hid ((wk n (lvl + 1) cj y).2 = 0 → wkAll (wk n (lvl + 1)) cj (l.drop j) = wkAll (wk n (lvl + 1)) (wk n (lvl + 1) cj y).1 (l.drop (j + 1))) := Lib.hid fun h => wkAll_step hx h
      have HS2 : Hid ((wk n (lvl + 1) cj y).2 ≠ 0 → wkAll (wk n (lvl + 1)) cj (l.drop j) = wk n (lvl + 1) cj y) := Lib.hid fun h => wkAll_stop hx h
      have HK := Lib.hid (wk_le n (lvl + 1) cj y hcj)
      have e : ((lvl + 1 : Nat) : Int) = (lvl : Int) + 1 := by simp
      rw [e] at hc
      clear hx r1 e
      generalize wk n (lvl + 1) cj y = q at hc HS1 HS2 HK
      obtain ⟨K, x⟩ := q
      dsimp only at HS1 HS2 HK
      have HC := Lib.hid hc
      clear hc
      by_cases h0 : x = 0
      · have h0' := Lib.hid h0
        clear h0
        go_wp2_with (go_at_call 77; refine (HC.out _ (below1 _ _)).mono ?_; rintro e w2 ⟨hg2, h0y, h0n⟩; obtain ⟨rfl, hO2⟩ := h0y h0'.out; have HG2 := Lib.hid (grownBy_trans HG.out (grownBy_trans (World.grownBy_alloc _ _ _) hg2 (.inl rfl)) (.inl rfl)); have HO2 := Lib.hid hO2; clear hg2 h0n h0y hO2)
        go_roundw
        case rel => exact ⟨j + 1, K, by omega, by go_num, HO2.out, HK.out, HW.out.trans (HS1.out h0'.out), HG2.out⟩
        case measure => simp [intOf]; omega
      · have h0' := Lib.hid h0
        clear h0
        go_wp2_with (go_at_call 77; refine (HC.out _ (below1 _ _)).mono ?_; rintro e w2 ⟨hg2, h0y, h0n⟩; have he := h0n h0'.out; subst he; unfold dies; have HG2 := Lib.hid (grownBy_trans HG.out (grownBy_trans (World.grownBy_alloc _ _ _) hg2 (.inl rfl)) (.inl rfl)); clear hg2 h0n h0y)
        exact ⟨rfl, AddPost.no (HR.out.trans (HW.out.trans (HS2.out h0'.out))) h0'.out HG2.out⟩
    · have HN := Lib.hid (HR.out.trans (HW.out.trans (wkAll_end (by omega))))
      go_wp2
      go_end0
      exact AddPost.yes HN.out HG.out HO.out

theorem addX_any {n : Nat} (hE : ∀ (y : Ar n) (a : Option Addr) (cc lvl c g : Nat) (w : World), One w g 138 (.int .i64 c) → RdK (KE (n - 1)) (fun b => b < g) w a cc y.e.l → c ≤ 64 → lvl ≤ 13 →
      Calls Tryz.prog 77 #[.pointer (some ⟨g, 0, none⟩), y.e.val a cc, .int .i64 lvl] w (AddPost (wk n lvl c y) g w))
    (x : ExN (Ar n)) (a : Option Addr) (cc lvl c g : Nat) (w : World) (h1 : One w g 138 (.int .i64 c)) (hr : RdK (KE n) (fun b => b < g) w a cc x.l) (hc : c ≤ 64) (hl : lvl ≤ 13) :
    Calls Tryz.prog 77 #[.pointer (some ⟨g, 0, none⟩), x.val a cc, .int .i64 lvl] w (AddPost (wkX lvl c x) g w) := by
  by_cases h : 12 < lvl
  · exact add_deep x a cc lvl c g w h1 hc h hl
  by_cases h' : 64 ≤ c
  · exact add_many x a cc lvl c g w h1 hc (by omega) h'
  cases hp : partB x
  · exact add_part x a cc lvl c g w h1 (by omega) (by omega) hp
  · exact add_on hE x a cc lvl c g w h1 hr (by omega) (by omega) hp
theorem add_any : ∀ (n : Nat) (y : Ar n) (a : Option Addr) (cc lvl c g : Nat) (w : World), One w g 138 (.int .i64 c) → RdK (KE (n - 1)) (fun b => b < g) w a cc y.e.l → c ≤ 64 → lvl ≤ 13 →
      Calls Tryz.prog 77 #[.pointer (some ⟨g, 0, none⟩), y.e.val a cc, .int .i64 lvl] w (AddPost (wk n lvl c y) g w)
  | 0, y, _, _, _, _, _, _, _, _, _, _ => Empty.elim y
  | n + 1, y, a, cc, lvl, c, g, w, h1, hr, hc, hl => addX_any (add_any n) y a cc lvl c g w h1 hr hc hl

theorem catch_idle (p : Addr) (w : World) :
    CallsD Tryz.prog 76 #[.pointer (some p)] .returning w fun e u' w' => e = .returned (.tuple #[]) ∧ u' = .returning ∧ w' = w := by
  refine callsD_of_wpS Tryz.func76 rfl fun c₀ cs hu => ?_
  apply wpS_seq
  apply wpS_region
  simp [wpOpsS, go_sem, recoverD, hu, Tryz.ntmps76, Exit.thenS]
  apply wpS_seq
  apply wpS_region
  simp [wpOpsS, go_sem, recoverD, hu, Tryz.ntmps76, Exit.thenS, Array.replicate]
  refine wpS_cond (t := false) (by simp [Act.eval, Array.replicate]) ?_
  simp only [Bool.false_eq_true, if_false]
  refine wpS_of_wp (wp_skip ?_)
  cases c₀
  simp_all [bodyPostS, results, Tryz.results76]
theorem assertE (x : Int) (w : World) : (Instr.typeAssert (.iface 38 (.int .i64 x)) 20 38 false).run Tryz.prog w = .ok (.int .i64 x) w := by kernel_rfl

theorem catch_dies (b : Nat) (x : Int) (older : List PanicEntry) (w : World) (y : Int) (h1 : w.cell? ⟨b, 0, none⟩ = some (.int .i64 y)) (f1 : w.frozen? ⟨b, 0, none⟩ = false) :
    CallsD Tryz.prog 76 #[.pointer (some ⟨b, 0, none⟩)] (.panicking ({ v := .iface 38 (.int .i64 x), recovered := false } :: older)) w fun e u' w' =>
      e = .returned (.tuple #[]) ∧ u' = .panicking ({ v := .iface 38 (.int .i64 x), recovered := true } :: older) ∧ w' = w.setCell ⟨b, 0, none⟩ (.int .i64 x) := by
  have hta := assertE x
  refine callsD_of_wpS Tryz.func76 rfl fun c₀ cs hu => ?_
  apply wpS_seq
  apply wpS_region
  simp [wpOpsS, go_sem, recoverD, hu, Tryz.ntmps76, Exit.thenS]
  apply wpS_seq
  apply wpS_region
  simp [wpOpsS, go_sem, recoverD, hu, Tryz.ntmps76, Exit.thenS, Array.replicate]
  refine wpS_cond (t := true) (by simp [Act.eval, Array.replicate]) ?_
  simp only [if_true]
  refine wpS_of_wp ?_
  go_wp2
  simp [bodyPostS, results, Tryz.results76]

set_option maxHeartbeats 1000000 in
set_option maxRecDepth 100000 in
theorem sCheckExpr_any {n : Nat} (x : ExN (Ar n)) (a : Option Addr) (cc : Nat) (w : World) (hr : RdE w n a cc x.l) :
    Calls Tryz.prog 51 #[x.val a cc] w fun e w' => e = .returned (.int .i64 (chkX x)) ∧ Below w.heap.size w w' := by
  have hmf : ∀ (fn : Fn) (first cap : Array Value) (w : World), (Instr.makeFunc fn first cap).run Tryz.prog w = .ok (.func fn first cap) w := fun _ _ _ _ => rfl
  have HR : Hid (RdK (KE n) (fun b => b < w.heap.size) w a cc x.l) := Lib.hid (hr.mono (KE_ok n) fun b _ h => h)
  have HA : Hid (∀ w', Below w.heap.size w w' → One w' (w.heap.size + 1 + 1) 138 (.int .i64 0) → Calls Tryz.prog 77 #[.pointer (some ⟨w.heap.size + 1 + 1, 0, none⟩), x.val a cc, .int .i64 1] w' (AddPost (wkX 1 0 x) (w.heap.size + 1 + 1) w')) := Lib.hid fun w' hb h1 =>
    addX_any (add_any n) x a cc 1 0 (w.heap.size + 1 + 1) w' h1 ((HR.out.kept (KE_ok n) fun b hb' hlt => hb.block b hlt).mono (KE_ok n) fun b hb' _ => by omega) (by omega) (by omega)
  have HC : Hid (chkX x = (wkX 1 0 x).2) := Lib.hid rfl
  generalize wkX 1 0 x = R at HA HC
  obtain ⟨K, E⟩ := R
  dsimp only at HC
  generalize chkX x = C at HC ⊢
  obtain rfl : C = E := HC.out
  obtain ⟨op, ⟨k, v, s, hv⟩, t, m, l⟩ := x
  unfold ExN.val
  dsimp only at HA ⊢
  clear hr HR HC
  go_enter_defers Tryz.func51, Tryz.ntmps51
  go_wp2_with fail
  have h2 : One (((w.alloc (.cells #[.int .i64 op, .int .i64 k, .int .i64 v, .string s, .string t, .string m, .slice a l.length cc] 62)).alloc (.cells #[.int .i64 0] 38)).alloc (.cells #[.int .i64 0] 138)) (w.heap.size + 1 + 1) 138 (.int .i64 0) := by
    have := One.new ((w.alloc (.cells #[.int .i64 op, .int .i64 k, .int .i64 v, .string s, .string t, .string m, .slice a l.length cc] 62)).alloc (.cells #[.int .i64 0] 38)) 138 (.int .i64 0)
    simpa using this
  have h3 : One (((w.alloc (.cells #[.int .i64 op, .int .i64 k, .int .i64 v, .string s, .string t, .string m, .slice a l.length cc] 62)).alloc (.cells #[.int .i64 0] 38)).alloc (.cells #[.int .i64 0] 138)) (w.heap.size + 1) 38 (.int .i64 0) := by
    have := (One.new (w.alloc (.cells #[.int .i64 op, .int .i64 k, .int .i64 v, .string s, .string t, .string m, .slice a l.length cc] 62)) 38 (.int .i64 0)).below (below1 _ (.cells #[.int .i64 0] 138))
    simpa using this
  have h4 := below3 w (.cells #[.int .i64 op, .int .i64 k, .int .i64 v, .string s, .string t, .string m, .slice a l.length cc] 62) (.cells #[.int .i64 0] 38) (.cells #[.int .i64 0] 138)
  have h5 : (((w.alloc (.cells #[.int .i64 op, .int .i64 k, .int .i64 v, .string s, .string t, .string m, .slice a l.length cc] 62)).alloc (.cells #[.int .i64 0] 38)).alloc (.cells #[.int .i64 0] 138)).heap.size = w.heap.size + 3 := by simp
  generalize ((w.alloc (.cells #[.int .i64 op, .int .i64 k, .int .i64 v, .string s, .string t, .string m, .slice a l.length cc] 62)).alloc (.cells #[.int .i64 0] 38)).alloc (.cells #[.int .i64 0] 138) = W at h2 h3 h4 h5 ⊢
  refine (HA.out W h4 h2).mono ?_
  rintro e w1 ⟨hg, hy, hn⟩
  have h6 : One w1 (w.heap.size + 1) 38 (.int .i64 0) := (hg.block _ (by omega) (by simp)).trans h3
  have h7 : Below w.heap.size w w1 := h4.grown hg (by omega) (fun k hk => by injection hk with hk; omega)
  have H6 := Lib.hid h6
  have H7 := Lib.hid h7
  obtain ⟨q0, f0⟩ := h6.cells
  clear HA h2 h3 h4 hg h6 h7
  by_cases h0 : C = 0
  · obtain ⟨rfl, _⟩ := hy h0
    subst h0
    clear hy hn
    go_wp2
    refine leaves_cons (f := 76) (args := #[.pointer (some ⟨w.heap.size + 1, 0, none⟩)]) (by simp) (by simp [go_sem]) ?_
    refine (catch_idle ⟨w.heap.size + 1, 0, none⟩ _).mono ?_
    rintro e u' w'' ⟨rfl, rfl, rfl⟩
    simp [Leaves, settle, results, Tryz.results51, go_sem, q0]
    exact H7.out.setCell (p := ⟨w.heap.size + 1, 0, none⟩) (by simp) _
  · obtain rfl := hn h0
    clear hy hn
    unfold dies
    go_wp2
    refine leaves_cons (f := 76) (args := #[.pointer (some ⟨w.heap.size + 1, 0, none⟩)]) (by simp) (by simp [go_sem]) ?_
    refine (catch_dies (w.heap.size + 1) C [] _ 0 q0 f0).mono ?_
    rintro e u' w'' ⟨rfl, rfl, rfl⟩
    simp [Leaves, settle, results, Tryz.results51, go_sem, q0]
    exact H7.out.setCell (p := ⟨w.heap.size + 1, 0, none⟩) (by simp) _
end Go.Proofs.YtipcacplphidhaaGreat.Sy
