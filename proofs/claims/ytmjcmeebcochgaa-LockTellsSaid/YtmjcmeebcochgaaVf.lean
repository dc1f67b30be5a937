/- What parted of package lock makes of a list by each of the two tests: the walks. Conditions: a list of at most a million locks that is read in memory. -/
import Derived.Test.YtmjcmeebcochgaaVe
namespace Go.Proofs.Ytmjcmeebcochgaa
open Go.RowKit Go.Sort
set_option linter.unusedSimpArgs false
set_option linter.unusedVariables false

/-- Two slices do not lie in one row. -/
def Apt (a b : Value) : Prop := ∀ k, a.ownBlock = some k → b.ownBlock ≠ some k
/-- Two lists of the call's own. -/
structure Two (w : World) (B : Nat) (m o : Value) (a b : List Lk) : Prop where
  m_own : w.ownsRow B 34 3 m a.length (lks a)
  o_own : w.ownsRow B 34 3 o b.length (lks b)
  apt : Apt m o
theorem Two.below {w w' : World} {B : Nat} {m o : Value} {a b : List Lk} (h : Two w B m o a b) (hb : Below w.heap.size w w') : Two w' B m o a b := ⟨own_below h.m_own hb, own_below h.o_own hb, h.apt⟩
theorem Two.left {w w' : World} {B : Nat} {m m' o : Value} {a b : List Lk} {v : Lk} (h : Two w B m o a b) (hown : w'.ownsRow B 34 3 m' (a.length + 1) (lks a ++ lks [v])) (hg : w.grownBy w' m.ownBlock) (hn : m'.ownBlock = m.ownBlock ∨ m'.ownBlock = some w.heap.size) : Two w' B m' o (a ++ [v]) b := by
  refine ⟨by rw [lks_app]; simpa using hown, h.o_own.kept hg ?_, fun k hk e => ?_⟩
  · cases ho : o.ownBlock with
    | none => exact .inl rfl
    | some k => exact .inr fun e => h.apt k e.symm ho
  · rcases hn with hn | hn
    · rw [hn] at hk; exact h.apt k hk e
    · rw [hn] at hk
      injection hk with hk
      have := (h.o_own.lt k e).2
      omega
theorem Two.right {w w' : World} {B : Nat} {m o o' : Value} {a b : List Lk} {v : Lk} (h : Two w B m o a b) (hown : w'.ownsRow B 34 3 o' (b.length + 1) (lks b ++ lks [v])) (hg : w.grownBy w' o.ownBlock) (hn : o'.ownBlock = o.ownBlock ∨ o'.ownBlock = some w.heap.size) : Two w' B m o' a (b ++ [v]) := by
  refine ⟨h.m_own.kept hg ?_, by rw [lks_app]; simpa using hown, fun k hk e => ?_⟩
  · cases ho : m.ownBlock with
    | none => exact .inl rfl
    | some k => exact .inr fun e => h.apt k ho e.symm
  · rcases hn with hn | hn
    · rw [hn] at e; exact h.apt k hk e
    · rw [hn] at e
      injection e with e
      have := (h.m_own.lt k hk).2
      omega
theorem lit_news (W : World) (v : Lk) : ∀ j u, (lks [v])[j]? = some u → (W.alloc (.cells #[.int .i64 v.t, .string v.lo.s, .string v.hi.s] 34)).cell? ((⟨W.heap.size, 0, none⟩ : Addr).add j) = some u := fun j u hu => by
  rw [add_lit, Nat.zero_add, cell_last _ _ _ _ _ rfl, ← hu]
  simp [lks, lkC]
theorem filter_step {p : Lk → Bool} {l : List Lk} {j : Nat} (hj : j < l.length) : (l.take (j + 1)).filter p = if p l[j] = true then (l.take j).filter p ++ [l[j]] else (l.take j).filter p := by
  rw [List.take_succ_eq_append_getElem hj, List.filter_append]
  split
  · rename_i h; rw [List.filter_cons_of_pos h]; rfl
  · rename_i h; rw [List.filter_cons_of_neg h]; simp
theorem flt_len (p : Lk → Bool) (l : List Lk) (j : Nat) : ((l.take j).filter p).length ≤ l.length := by
  have h1 := List.length_filter_le p (l.take j)
  have h2 := List.length_take_le j l
  have h3 : (l.take j).length ≤ l.length := by rw [List.length_take]; omega
  omega
/-- What parted answers. -/
def PartX (p : Lk → Bool) (l : List Lk) (w : World) (e : Ending) (w' : World) : Prop := ∃ m o, e = .returned (.tuple #[m, o]) ∧ Two w' w.heap.size m o (l.filter p) (l.filter fun a => !p a) ∧ Below w.heap.size w w'
set_option maxRecDepth 100000 in
set_option maxHeartbeats 4000000 in
theorem parted_own (t : Int) (q : Addr) (A : Option Addr) (n c : Nat) (l : List Lk) (w : World) (hr : Rd w A n c l) (hn : n ≤ 1000000) (hc : w.cell? q = some (.int .i64 t)) :
    Calls Try.prog 40 #[.slice A n c, .func (.func 52) #[] #[.pointer (some q)]] w (PartX (ownB t) l w) := by
  obtain ⟨i0, hi, hz0, hz1, hz2⟩ := info_parts Try.infoV
  have hl := hr.len
  subst hl
  have HR := Lib.hid hr
  have HC := Lib.hid hc
  have HT := Lib.hid fun (v : Lk) W (hb : W.cell? q = some (.int .i64 t)) => owns_any v t q W hb
  clear hr hc
  go_enter Try.func40, Try.ntmps40
  go_wp2
  go_loopw [6, 7, 9, 12] (fun m o _ i wr => ∃ j : Nat, j ≤ l.length ∧ i = .int .i64 j ∧ Two wr w.heap.size m o ((l.take j).filter (ownB t)) ((l.take j).filter fun a => !(ownB t) a) ∧ Below w.heap.size w wr) (fun _ _ _ i _ => l.length - (intOf i).toNat)
  case atStart => exact ⟨0, by omega, rfl, ⟨World.ownsRow_nil _ _ _ _, World.ownsRow_nil _ _ _ _, fun k hk => by cases hk⟩, Below.refl _ _⟩
  case round =>
    obtain ⟨j, hj, rfl, hT2, hB⟩ := hrel
    have HB := Lib.hid hB
    have H2 := Lib.hid hT2
    clear hB hT2
    by_cases hlt : j < l.length
    · obtain ⟨ad, rfl, c0, c1, c2⟩ := (HR.out.below HB.out).at_ hlt
      have hb0 := cell_lt c0
      rw [add_block] at hb0
      have HF1 := Lib.hid (filter_step (p := ownB t) hlt)
      have HF2 := Lib.hid (filter_step (p := fun a => !(ownB t) a) hlt)
      have hm1 : ((l.take j).filter (ownB t)).length ≤ 1000000 := Nat.le_trans (flt_len _ _ _) hn
      have hm2 : ((l.take j).filter fun a => !(ownB t) a).length ≤ 1000000 := Nat.le_trans (flt_len _ _ _) hn
      generalize (l.take j).filter (ownB t) = F1 at *
      generalize (l.take j).filter (fun a => !(ownB t) a) = F2 at *
      generalize l[j] = v at *
      have hbx := below1 wr (.cells #[.int .i64 v.t, .string v.lo.s, .string v.hi.s] 34)
      have HCW := Lib.hid (cell_keep (cell_keep HC.out HB.out) hbx)
      clear hbx
      have HM1 := Lib.hid hm1
      have HM2 := Lib.hid hm2
      clear hm1 hm2
      cases hp : (ownB t) v
      · have HS1 : Hid ((l.take (j + 1)).filter (ownB t) = F1) := Lib.hid (by have := HF1.out; rw [hp] at this; simpa using this)
        have HS2 : Hid (((l.take (j + 1)).filter fun a => !(ownB t) a) = F2 ++ [v]) := Lib.hid (by have := HF2.out; rw [hp] at this; simpa using this)
        have ht := HT.out v
        rw [hp] at ht
        have HT2 := Lib.hid ht
        clear ht hp HF1 HF2
        go_wp2_with (first | (go_at_call 52; (with_reducible refine (HT2.out _ HCW.out).mono ?_); rintro e w2 ⟨rfl, hb⟩; obtain ⟨b0, b1, b2, hb', hz'⟩ := box3 hb; have HB2 := Lib.hid (thn HB.out hb'); have H3 := Lib.hid (H2.out.below hb'); clear hb hb'; have HB3 := Lib.hid (thn HB2.out (below1 w2 (.cells #[.int .i64 v.t, .string v.lo.s, .string v.hi.s] 34))); have H4 := Lib.hid (H3.out.below (below1 w2 (.cells #[.int .i64 v.t, .string v.lo.s, .string v.hi.s] 34)))) | (at_builtin; refine wpList_append_own_at _ rfl _ _ 27 rfl w.heap.size 34 i0 (.agg #[.int .i64 0, .string ⟨#[]⟩, .string ⟨#[]⟩]) 3 40 Try.underlying27 hi hz0 hz1 hz2 rfl (by decide) _ F2.length _ rfl H4.out.o_own ⟨w2.heap.size, 0, none⟩ 1 1 (lks [v]) rfl rfl (lit_news w2 v) (lks_one _) (by have := HM2.out; unfold maxLen; omega) (by have := HM2.out; omega) HB3.out.size ?_; intro v3 w3 hown3 hg3 _ hn3; have H5 := Lib.hid (H4.out.right hown3 hg3 hn3); have HB4 := Lib.hid (HB3.out.grown hg3 HB3.out.size (fun k hk => (H4.out.o_own.lt k hk).1)); clear hown3 hg3 hn3))
        go_roundw
        case rel => exact ⟨j + 1, hlt, by go_num, by rw [HS1.out, HS2.out]; exact H5.out, HB4.out⟩
        case measure => simp [intOf]; omega
      · have HS1 : Hid ((l.take (j + 1)).filter (ownB t) = F1 ++ [v]) := Lib.hid (by have := HF1.out; rw [hp] at this; simpa using this)
        have HS2 : Hid (((l.take (j + 1)).filter fun a => !(ownB t) a) = F2) := Lib.hid (by have := HF2.out; rw [hp] at this; simpa using this)
        have ht := HT.out v
        rw [hp] at ht
        have HT2 := Lib.hid ht
        clear ht hp HF1 HF2
        go_wp2_with (first | (go_at_call 52; (with_reducible refine (HT2.out _ HCW.out).mono ?_); rintro e w2 ⟨rfl, hb⟩; obtain ⟨b0, b1, b2, hb', hz'⟩ := box3 hb; have HB2 := Lib.hid (thn HB.out hb'); have H3 := Lib.hid (H2.out.below hb'); clear hb hb'; have HB3 := Lib.hid (thn HB2.out (below1 w2 (.cells #[.int .i64 v.t, .string v.lo.s, .string v.hi.s] 34))); have H4 := Lib.hid (H3.out.below (below1 w2 (.cells #[.int .i64 v.t, .string v.lo.s, .string v.hi.s] 34)))) | (at_builtin; refine wpList_append_own_at _ rfl _ _ 27 rfl w.heap.size 34 i0 (.agg #[.int .i64 0, .string ⟨#[]⟩, .string ⟨#[]⟩]) 3 40 Try.underlying27 hi hz0 hz1 hz2 rfl (by decide) _ F1.length _ rfl H4.out.m_own ⟨w2.heap.size, 0, none⟩ 1 1 (lks [v]) rfl rfl (lit_news w2 v) (lks_one _) (by have := HM1.out; unfold maxLen; omega) (by have := HM1.out; omega) HB3.out.size ?_; intro v3 w3 hown3 hg3 _ hn3; have H5 := Lib.hid (H4.out.left hown3 hg3 hn3); have HB4 := Lib.hid (HB3.out.grown hg3 HB3.out.size (fun k hk => (H4.out.m_own.lt k hk).1)); clear hown3 hg3 hn3))
        go_roundw
        case rel => exact ⟨j + 1, hlt, by go_num, by rw [HS1.out, HS2.out]; exact H5.out, HB4.out⟩
        case measure => simp [intOf]; omega
    · obtain rfl : j = l.length := by omega
      have h := H2.out
      rw [List.take_length] at h
      have HH := Lib.hid h
      clear h H2
      go_wp2
      go_ret2
      exact ⟨_, _, rfl, HH.out, HB.out⟩
set_option maxRecDepth 100000 in
set_option maxHeartbeats 4000000 in
theorem parted_tou (x : Lk) (q : Addr) (A : Option Addr) (n c : Nat) (l : List Lk) (w : World) (hr : Rd w A n c l) (hn : n ≤ 1000000) (hc : Cell3 w q x) :
    Calls Try.prog 40 #[.slice A n c, .func (.func 49) #[] #[.pointer (some q)]] w (PartX (touB x) l w) := by
  obtain ⟨i0, hi, hz0, hz1, hz2⟩ := info_parts Try.infoV
  have hl := hr.len
  subst hl
  have HR := Lib.hid hr
  have HC := Lib.hid hc
  have HT := Lib.hid fun (v : Lk) W (hb : Cell3 W q x) => touches_any x v q W hb
  clear hr hc
  go_enter Try.func40, Try.ntmps40
  go_wp2
  go_loopw [6, 7, 9, 12] (fun m o _ i wr => ∃ j : Nat, j ≤ l.length ∧ i = .int .i64 j ∧ Two wr w.heap.size m o ((l.take j).filter (touB x)) ((l.take j).filter fun a => !(touB x) a) ∧ Below w.heap.size w wr) (fun _ _ _ i _ => l.length - (intOf i).toNat)
  case atStart => exact ⟨0, by omega, rfl, ⟨World.ownsRow_nil _ _ _ _, World.ownsRow_nil _ _ _ _, fun k hk => by cases hk⟩, Below.refl _ _⟩
  case round =>
    obtain ⟨j, hj, rfl, hT2, hB⟩ := hrel
    have HB := Lib.hid hB
    have H2 := Lib.hid hT2
    clear hB hT2
    by_cases hlt : j < l.length
    · obtain ⟨ad, rfl, c0, c1, c2⟩ := (HR.out.below HB.out).at_ hlt
      have hb0 := cell_lt c0
      rw [add_block] at hb0
      have HF1 := Lib.hid (filter_step (p := touB x) hlt)
      have HF2 := Lib.hid (filter_step (p := fun a => !(touB x) a) hlt)
      have hm1 : ((l.take j).filter (touB x)).length ≤ 1000000 := Nat.le_trans (flt_len _ _ _) hn
      have hm2 : ((l.take j).filter fun a => !(touB x) a).length ≤ 1000000 := Nat.le_trans (flt_len _ _ _) hn
      generalize (l.take j).filter (touB x) = F1 at *
      generalize (l.take j).filter (fun a => !(touB x) a) = F2 at *
      generalize l[j] = v at *
      have hbx := below1 wr (.cells #[.int .i64 v.t, .string v.lo.s, .string v.hi.s] 34)
      have HCW := Lib.hid ((HC.out.below HB.out).below hbx)
      clear hbx
      have HM1 := Lib.hid hm1
      have HM2 := Lib.hid hm2
      clear hm1 hm2
      cases hp : (touB x) v
      · have HS1 : Hid ((l.take (j + 1)).filter (touB x) = F1) := Lib.hid (by have := HF1.out; rw [hp] at this; simpa using this)
        have HS2 : Hid (((l.take (j + 1)).filter fun a => !(touB x) a) = F2 ++ [v]) := Lib.hid (by have := HF2.out; rw [hp] at this; simpa using this)
        have ht := HT.out v
        rw [hp] at ht
        have HT2 := Lib.hid ht
        clear ht hp HF1 HF2
        go_wp2_with (first | (go_at_call 49; (with_reducible refine (HT2.out _ HCW.out).mono ?_); rintro e w2 ⟨rfl, hb⟩; obtain ⟨b0, b1, b2, hb', hz'⟩ := box3 hb; have HB2 := Lib.hid (thn HB.out hb'); have H3 := Lib.hid (H2.out.below hb'); clear hb hb'; have HB3 := Lib.hid (thn HB2.out (below1 w2 (.cells #[.int .i64 v.t, .string v.lo.s, .string v.hi.s] 34))); have H4 := Lib.hid (H3.out.below (below1 w2 (.cells #[.int .i64 v.t, .string v.lo.s, .string v.hi.s] 34)))) | (at_builtin; refine wpList_append_own_at _ rfl _ _ 27 rfl w.heap.size 34 i0 (.agg #[.int .i64 0, .string ⟨#[]⟩, .string ⟨#[]⟩]) 3 40 Try.underlying27 hi hz0 hz1 hz2 rfl (by decide) _ F2.length _ rfl H4.out.o_own ⟨w2.heap.size, 0, none⟩ 1 1 (lks [v]) rfl rfl (lit_news w2 v) (lks_one _) (by have := HM2.out; unfold maxLen; omega) (by have := HM2.out; omega) HB3.out.size ?_; intro v3 w3 hown3 hg3 _ hn3; have H5 := Lib.hid (H4.out.right hown3 hg3 hn3); have HB4 := Lib.hid (HB3.out.grown hg3 HB3.out.size (fun k hk => (H4.out.o_own.lt k hk).1)); clear hown3 hg3 hn3))
        go_roundw
        case rel => exact ⟨j + 1, hlt, by go_num, by rw [HS1.out, HS2.out]; exact H5.out, HB4.out⟩
        case measure => simp [intOf]; omega
      · have HS1 : Hid ((l.take (j + 1)).filter (touB x) = F1 ++ [v]) := Lib.hid (by have := HF1.out; rw [hp] at this; simpa using this)
        have HS2 : Hid (((l.take (j + 1)).filter fun a => !(touB x) a) = F2) := Lib.hid (by have := HF2.out; rw [hp] at this; simpa using this)
        have ht := HT.out v
        rw [hp] at ht
        have HT2 := Lib.hid ht
        clear ht hp HF1 HF2
        go_wp2_with (first | (go_at_call 49; (with_reducible refine (HT2.out _ HCW.out).mono ?_); rintro e w2 ⟨rfl, hb⟩; obtain ⟨b0, b1, b2, hb', hz'⟩ := box3 hb; have HB2 := Lib.hid (thn HB.out hb'); have H3 := Lib.hid (H2.out.below hb'); clear hb hb'; have HB3 := Lib.hid (thn HB2.out (below1 w2 (.cells #[.int .i64 v.t, .string v.lo.s, .string v.hi.s] 34))); have H4 := Lib.hid (H3.out.below (below1 w2 (.cells #[.int .i64 v.t, .string v.lo.s, .string v.hi.s] 34)))) | (at_builtin; refine wpList_append_own_at _ rfl _ _ 27 rfl w.heap.size 34 i0 (.agg #[.int .i64 0, .string ⟨#[]⟩, .string ⟨#[]⟩]) 3 40 Try.underlying27 hi hz0 hz1 hz2 rfl (by decide) _ F1.length _ rfl H4.out.m_own ⟨w2.heap.size, 0, none⟩ 1 1 (lks [v]) rfl rfl (lit_news w2 v) (lks_one _) (by have := HM1.out; unfold maxLen; omega) (by have := HM1.out; omega) HB3.out.size ?_; intro v3 w3 hown3 hg3 _ hn3; have H5 := Lib.hid (H4.out.left hown3 hg3 hn3); have HB4 := Lib.hid (HB3.out.grown hg3 HB3.out.size (fun k hk => (H4.out.m_own.lt k hk).1)); clear hown3 hg3 hn3))
        go_roundw
        case rel => exact ⟨j + 1, hlt, by go_num, by rw [HS1.out, HS2.out]; exact H5.out, HB4.out⟩
        case measure => simp [intOf]; omega
    · obtain rfl : j = l.length := by omega
      have h := H2.out
      rw [List.take_length] at h
      have HH := Lib.hid h
      clear h H2
      go_wp2
      go_ret2
      exact ⟨_, _, rfl, HH.out, HB.out⟩
end Go.Proofs.Ytmjcmeebcochgaa
