/- Where a key stands in a node: the walks of cmp.Less, slices.BinarySearch, isLeaf, toward. Conditions: nodes that are read in memory, their keys rising. -/
import Derived.Test.YtkpjkglheegmgaaQVa
namespace Go.Proofs.Ytkpjkglheegmgaa
open Go.RowKit
set_option linter.unusedSimpArgs false
set_option linter.unusedVariables false

theorem cNaN_any (s : ByteArray) (w : World) : Calls Try.prog 74 #[.string s] w fun e w' => e = .returned (.bool false) ∧ w = w' := by
  go_enter Try.func74, Try.ntmps74
  go_wp2
  go_ret
  exact ⟨ret_bool (by simp), rfl⟩
theorem sNaN_any (s : ByteArray) (w : World) : Calls Try.prog 61 #[.string s] w fun e w' => e = .returned (.bool false) ∧ w = w' := by
  go_enter Try.func61, Try.ntmps61
  go_wp2
  go_ret
  exact ⟨ret_bool (by simp), rfl⟩
theorem less_any (a b : Key) (w : World) : Calls Try.prog 60 #[.string a.s, .string b.s] w fun e w' => e = .returned (.bool (decide (a < b))) ∧ w = w' := by
  go_enter Try.func60, Try.ntmps60
  go_wp2_with (go_at_call 74; refine (cNaN_any _ _).mono ?_; rintro e w1 ⟨rfl, rfl⟩)
  go_ret
  exact ⟨ret_bool (by rw [less_dec]), rfl⟩

set_option maxRecDepth 100000 in
set_option maxHeartbeats 4000000 in
theorem search_any (A : Option Addr) (n c : Nat) (l : List Key) (x : Key) (w : World) (hl : n = l.length) (hr : Rd w A n c (strs l)) (hs : Asc l) (hn : l.length ≤ 1000000) :
    Calls Try.prog 49 #[.slice A n c, .string x.s] w fun e w' => e = .returned (.tuple #[.int .i64 (pos l x), .bool (decide (x ∈ l))]) ∧ w = w' := by
  subst hl
  have HR := Lib.hid hr
  have HS := Lib.hid hs
  clear hr hs
  go_enter Try.func49, Try.ntmps49
  go_wp2
  go_loop [7, 8, 9] (fun a z _ => ∃ i j : Nat, a = .int .i64 i ∧ z = .int .i64 j ∧ i ≤ j ∧ j ≤ l.length ∧ (∀ k (h : k < i) (h2 : k < l.length), l[k] < x) ∧ (∀ k (h : k < l.length), j ≤ k → x ≤ l[k])) (fun a z _ => (intOf z).toNat - (intOf a).toNat)
  case atStart => exact ⟨0, l.length, rfl, rfl, by omega, by omega, fun k h => by omega, fun k h h2 => by omega⟩
  case round =>
    obtain ⟨i, j, rfl, rfl, hij, hj, h1, h2⟩ := hrel
    have H1 := Lib.hid h1
    have H2 := Lib.hid h2
    clear h1 h2
    by_cases hlt : i < j
    · go_wp2_with fail
      rw [show ((i : Int) + (j : Int)) / 2 = (((i + j) / 2 : Nat) : Int) by omega]
      obtain ⟨h, hh⟩ : ∃ h, h = (i + j) / 2 := ⟨_, rfl⟩
      have hi1 : i ≤ h := by omega
      have hi2 : h < j := by omega
      rw [← hh]
      clear hh
      have hhl : h < l.length := by omega
      obtain ⟨ad, rfl, q0⟩ := HR.out.at_ (strs_at hhl)
      have hlt' : (h : Int) < (l.length : Int) := by omega
      have ee : (Instr.indexAt 55 (.slice (some ad) l.length c) (.int .i64 h)).run Try.prog w = .ok (.pointer (some (ad.add h))) w := by go_simp
      by_cases hx : l[h] < x
      · have HX := Lib.hid hx
        have hc := fun w => less_any l[h] x w
        rw [decide_eq_true hx] at hc
        clear hx
        go_wp2_with (first | (rw [ee]) | (go_at_call 60; refine (hc _).mono ?_; rintro e w1 ⟨rfl, rfl⟩))
        go_round
        case rel => exact ⟨h + 1, j, by go_num, rfl, by omega, hj, fun k hk hk2 => by
          rcases Nat.lt_or_ge k h with h3 | h3
          · have := HS.out.get h3 hhl; have := HX.out; grind
          · obtain rfl : k = h := by omega
            exact HX.out, H2.out⟩
        case measure => simp [intOf]; omega
      · have HX := Lib.hid hx
        have hc := fun w => less_any l[h] x w
        rw [decide_eq_false hx] at hc
        clear hx
        go_wp2_with (first | (rw [ee]) | (go_at_call 60; refine (hc _).mono ?_; rintro e w1 ⟨rfl, rfl⟩))
        go_round
        case rel => exact ⟨i, h, rfl, rfl, hi1, by omega, H1.out, fun k hk hk2 => by
          rcases Nat.lt_or_ge h k with h3 | h3
          · have := HS.out.get h3 hk; have := HX.out; grind
          · obtain rfl : k = h := by omega
            have := HX.out; grind⟩
        case measure => simp [intOf]; omega
    · obtain rfl : i = j := by omega
      have hp : pos l x = i := pos_eq HS.out hj (fun k h => H1.out k h (by omega)) (fun k h h2 => H2.out k h h2)
      have HP := Lib.hid hp
      by_cases hn2 : i < l.length
      · obtain ⟨ad, rfl, q0⟩ := HR.out.at_ (strs_at hn2)
        have hm : decide (x ∈ l) = decide (l[i] = x) := decide_eq_decide.2 (by
          rw [mem_pos HS.out]
          constructor
          · rintro ⟨h, e⟩; rw [← e]; congr 1; exact HP.out.symm
          · intro e; subst hp; exact ⟨hn2, e⟩)
        have hm2 : (l[i].s.toList == x.s.toList) = decide (l[i] = x) := by rw [Bool.eq_iff_iff]; simp [key_eq]
        have HM := Lib.hid hm
        have HM2 := Lib.hid hm2
        clear hp hm hm2
        cases hE : (l[i].s.toList == x.s.toList)
        · go_wp2_with (first | (go_at_call 61; refine (sNaN_any _ _).mono ?_; rintro e w1 ⟨rfl, rfl⟩))
          go_ret2
          exact ⟨by rw [HP.out, HM.out, ← HM2.out, hE]; rfl, rfl⟩
        · go_wp2_with (first | (go_at_call 61; refine (sNaN_any _ _).mono ?_; rintro e w1 ⟨rfl, rfl⟩))
          go_ret2
          exact ⟨by rw [HP.out, HM.out, ← HM2.out, hE]; rfl, rfl⟩
      · have hm : decide (x ∈ l) = false := decide_eq_false (by
          rw [mem_pos HS.out]
          rintro ⟨h, _⟩; rw [HP.out] at h; exact hn2 h)
        have HM := Lib.hid hm
        clear hp hm
        go_wp2
        go_ret2
        exact ⟨by rw [HP.out, HM.out]; rfl, rfl⟩

/-- Where the three lists of a node lie, and what room they have. -/
structure Hd where
  kA : Option Addr
  kc : Nat
  vA : Option Addr
  vc : Nat
  cA : Option Addr
  cc : Nat
@[reducible] def Hd.cells (h : Hd) (nk nv nc : Nat) : Array Value := #[.slice h.kA nk h.kc, .slice h.vA nv h.vc, .slice h.cA nc h.cc]
/-- Block g is a node with t's own lists, its kids at gs. -/
structure RdB (w : World) (g : Nat) (t : Tr) (gs : List Nat) (h : Hd) : Prop where
  blk : w.heap[g]? = some (.cells (h.cells t.ks.length t.vs.length t.cs.length) 99 (0, 0))
  k : Rd w h.kA t.ks.length h.kc (strs t.ks)
  v : Rd w h.vA t.vs.length h.vc (strs t.vs)
  c : Rd w h.cA t.cs.length h.cc (ptrs gs)
theorem heap_lt {w : World} {g : Nat} {o : Obj} (h : w.heap[g]? = some o) : g < w.heap.size := by
  rcases Nat.lt_or_ge g w.heap.size with h' | h'
  · exact h'
  · rw [Array.getElem?_eq_none h'] at h; cases h
section
variable {w w' : World} {g : Nat} {t : Tr} {gs : List Nat} {h : Hd}
theorem RdB.lt (b : RdB w g t gs h) : g < w.heap.size := heap_lt b.blk
theorem RdB.n (b : RdB w g t gs h) : gs.length = t.cs.length := by have := b.c.len; rw [ptrs_len] at this; exact this
theorem RdB.cells (b : RdB w g t gs h) : w.cell? ⟨g, 0, none⟩ = some (.slice h.kA t.ks.length h.kc) ∧ w.cell? ⟨g, 1, none⟩ = some (.slice h.vA t.vs.length h.vc) ∧ w.cell? ⟨g, 2, none⟩ = some (.slice h.cA t.cs.length h.cc) := by
  have := b.blk
  refine ⟨?_, ?_, ?_⟩ <;> simp [World.cell?, this]
theorem RdB.free (b : RdB w g t gs h) (o : Nat) : w.frozen? ⟨g, o, none⟩ = false := by
  have := b.blk
  simp [World.frozen?, this]
theorem RdB.keep (b : RdB w g t gs h) (hk : Kv w w') (hg : w'.heap[g]? = w.heap[g]?) : RdB w' g t gs h :=
  ⟨hg.trans b.blk, b.k.kv (strs_firm _) hk, b.v.kv (strs_firm _) hk, b.c.kv (ptrs_firm _) hk⟩
end
theorem isLeaf_any (g : Nat) (t : Tr) (gs : List Nat) (h : Hd) (w : World) (b : RdB w g t gs h) :
    Calls Try.prog 47 #[ptr g] w fun e w' => e = .returned (.bool t.cs.isEmpty) ∧ w = w' := by
  obtain ⟨c0, c1, c2⟩ := b.cells
  have hl := b.c.cap
  have hl2 := b.c.le
  have HB := Lib.hid b
  clear b
  go_enter Try.func47, Try.ntmps47
  go_wp2
  go_ret
  refine ⟨ret_bool ?_, rfl⟩
  cases t.cs <;> simp
  omega
theorem toward_any (g : Nat) (t : Tr) (gs : List Nat) (h : Hd) (x : Key) (w : World) (b : RdB w g t gs h) (hs : Asc t.ks) (hn : t.ks.length ≤ 1000000) :
    Calls Try.prog 48 #[ptr g, .string x.s] w fun e w' => e = .returned (.int .i64 (tow t.ks x)) ∧ w = w' := by
  obtain ⟨c0, c1, c2⟩ := b.cells
  have hp := pos_le t.ks x
  have hc := search_any h.kA t.ks.length h.kc t.ks x w rfl b.k hs hn
  have HT := Lib.hid (tow_eq (x := x) hs)
  have HB := Lib.hid b
  clear b hs
  by_cases hm : x ∈ t.ks
  · rw [decide_eq_true hm] at hc
    have HM := Lib.hid hm
    clear hm
    go_enter Try.func48, Try.ntmps48
    go_wp2_with (go_at_call 49; refine hc.mono ?_; rintro e w1 ⟨rfl, rfl⟩)
    go_ret
    exact ⟨ret_int (by rw [HT.out, if_pos HM.out]; push_cast; rfl), rfl⟩
  · rw [decide_eq_false hm] at hc
    have HM := Lib.hid hm
    clear hm
    go_enter Try.func48, Try.ntmps48
    go_wp2_with (go_at_call 49; refine hc.mono ?_; rintro e w1 ⟨rfl, rfl⟩)
    go_ret
    exact ⟨ret_int (by rw [HT.out, if_neg HM.out]), rfl⟩
end Go.Proofs.Ytkpjkglheegmgaa
