/- What appendNumber, appendText and appendValue make of a key: the walks. Conditions: numbers of 64 bits. -/
import Derived.Test.YtapichngakcpeaaVc
import Derived.Maps.AppendAt
import Derived.Deep.Light
namespace Go.Proofs.Ytapichngakcpeaa
open Go.RowKit
set_option linter.unusedSimpArgs false
set_option linter.unusedVariables false

theorem Try.info5 : (Try.prog.info? 5).map (fun i => (i.zero, i.size, i.bytes)) = some (some (.int .u8 0), 1, 1) := by kernel_rfl
/-- Octets as cells. -/
def bys (l : List UInt8) : List Value := l.map fun b => .int .u8 (b.toNat : Int)
theorem bys_length (l : List UInt8) : (bys l).length = l.length := by simp [bys]
theorem bys_append (l m : List UInt8) : bys (l ++ m) = bys l ++ bys m := by simp [bys]

/-- v' is the key l' in w', grown out of the key v of w: but for v's row nothing old has turned. -/
structure Grew (base : Nat) (w : World) (v : Value) (w' : World) (v' : Value) (l' : List UInt8) : Prop where
  own : w'.ownsRow base 5 1 v' l'.length (bys l')
  grown : w.grownBy w' v.ownBlock
  lies : v'.ownBlock = v.ownBlock ∨ ∃ g, v'.ownBlock = some g ∧ w.heap.size ≤ g

theorem grownBy_trans {w w1 w2 : World} {r r' : Option Nat} (h : w.grownBy w1 r) (k : w1.grownBy w2 r') (hr : r' = r ∨ ∀ g, r' = some g → w.heap.size ≤ g) : w.grownBy w2 r := by
  refine ⟨k.os.trans h.os, k.tape.trans h.tape, k.output.trans h.output, Nat.le_trans h.size k.size, fun i hi hne => (k.block i (Nat.lt_of_lt_of_le hi h.size) ?_).trans (h.block i hi hne)⟩
  rcases hr with rfl | hr
  · exact hne
  · intro e; have := hr i e.symm; omega
theorem Grew.trans {base : Nat} {w w1 w2 : World} {v v1 v2 : Value} {l1 l2 : List UInt8} (h : Grew base w v w1 v1 l1) (k : Grew base w1 v1 w2 v2 l2) : Grew base w v w2 v2 l2 := by
  refine ⟨k.own, grownBy_trans h.grown k.grown ?_, ?_⟩
  · rcases h.lies with e | ⟨g, e, hg⟩
    · exact .inl e
    · exact .inr fun g' e' => by rw [e] at e'; injection e' with e'; omega
  · rcases k.lies with e | ⟨g, e, hg⟩
    · rw [e]; exact h.lies
    · exact .inr ⟨g, e, Nat.le_trans h.grown.size hg⟩
theorem Grew.refl {base : Nat} {w : World} {v : Value} {l : List UInt8} (h : w.ownsRow base 5 1 v l.length (bys l)) : Grew base w v w v l := ⟨h, World.grownBy.refl _ _, .inl rfl⟩
/-- Behind one append of the octets m, that lay in a block made just before. -/
theorem Grew.step {base : Nat} {w w' : World} {o : Obj} {v v' : Value} {l m : List UInt8} {n : Nat} {xs : List Value} (hn : n = l.length + m.length) (hx : xs = bys l ++ bys m) (h : w'.ownsRow base 5 1 v' n xs) (hg : (w.alloc o).grownBy w' v.ownBlock)
    (hat : v'.ownBlock = v.ownBlock ∨ v'.ownBlock = some (w.alloc o).heap.size) : Grew base w v w' v' (l ++ m) := by
  refine ⟨by rw [List.length_append, bys_append, ← hn, ← hx]; exact h, grownBy_trans (World.grownBy_alloc w o _) hg (.inl rfl), ?_⟩
  rcases hat with e | e
  · exact .inl e
  · exact .inr ⟨_, e, by simp⟩

theorem xor_all (a : Nat) (h : a < 2 ^ 64) : (2 ^ 64 - 1) ^^^ a = 2 ^ 64 - 1 - a := by
  have h1 := @BitVec.toNat_not 64 (BitVec.ofNat 64 a)
  rw [← BitVec.allOnes_xor, BitVec.toNat_xor, BitVec.toNat_allOnes, BitVec.toNat_ofNat, Nat.mod_eq_of_lt h] at h1
  exact h1
theorem u64_wrap (y : Int) : IntKind.u64.wrap y = y % 18446744073709551616 := by simp [IntKind.wrap, IntKind.bits, IntKind.signed]
theorem xor_u64 {n : Int} (h0 : n < 0) (h1 : -9223372036854775808 ≤ n) : bits .xor .u64 IntKind.u64.max (IntKind.u64.wrap n) = -n - 1 := by
  have hx := xor_all (n % 18446744073709551616).toNat (by omega)
  have e : IntKind.u64.max = 18446744073709551615 := by decide
  rw [u64_wrap, e, u64_xor _ _ (by omega) (by omega) (by omega) (by omega)]
  have e2 : (18446744073709551615 : Int).toNat = 2 ^ 64 - 1 := by decide
  rw [e2, hx]
  omega
theorem needed_some (y : Int) (w : World) : Calls Try.prog 31 #[.int .u64 (IntKind.u64.wrap y)] w fun e w' => ∃ k : Nat, k ≤ 8 ∧ e = .returned (.int .i64 k) ∧ w = w' := by
  have h : 0 ≤ IntKind.u64.wrap y ∧ IntKind.u64.wrap y ≤ 18446744073709551615 := by rw [u64_wrap]; omega
  refine (needed_any _ w h.1 h.2).mono fun e w' ⟨h1, h2⟩ => ⟨_, need_le 8 _ ?_, h1, h2⟩
  have e : (256 : Nat) ^ 8 = 18446744073709551616 := by decide
  omega

theorem octs_get : ∀ (k : Nat) (n : Int) (j : Nat), j < k → (octs k n)[j]? = some (oct (n / 2 ^ (8 * (k - 1 - j))))
  | 0, n, j, h => by omega
  | k + 1, n, j, h => by
    simp only [octs]
    rcases Nat.lt_or_ge j k with hj | hj
    · rw [List.getElem?_append_left (by rw [octs_length]; exact hj), octs_get k (n / 256) j hj]
      have e : 8 * (k + 1 - 1 - j) = 8 + 8 * (k - 1 - j) := by omega
      rw [e, Int.pow_add, Int.ediv_ediv_of_nonneg (by omega)]
      rfl
    · obtain rfl : j = k := by omega
      rw [List.getElem?_append_right (by rw [octs_length]; exact Nat.le_refl _), octs_length]
      simp
theorem octs_take (k : Nat) (n : Int) (j : Nat) (h : j < k) : (octs k n).take (j + 1) = (octs k n).take j ++ [oct (n / 2 ^ (8 * (k - 1 - j)))] := by
  rw [List.take_add_one, octs_get k n j h]; rfl

set_option maxHeartbeats 1000000 in
theorem appendNumber_neg (base : Nat) (v : Value) (l : List UInt8) (n : Int) (w : World) (hn : inR n = true) (h0 : n < 0) (hl : l.length ≤ 100000) (hown : w.ownsRow base 5 1 v l.length (bys l)) (hb : base ≤ w.heap.size) :
    Calls Try.prog 24 #[v, .int .i64 n] w fun e w' => ∃ v', e = .returned v' ∧ Grew base w v w' v' (l ++ numK n) := by
  obtain ⟨i0, hi, hz0, hz1, hz2⟩ := info_parts Try.info5
  have h8 := need8 hn
  rw [inR_iff] at hn
  obtain ⟨n0, n1⟩ := hn
  have hx := xor_u64 h0 n0
  have hc : ∀ w, Calls Try.prog 31 #[.int .u64 (bits .xor .u64 IntKind.u64.max (IntKind.u64.wrap n))] w fun e w' => e = .returned (.int .i64 (need (amt n) : Int)) ∧ w = w' := fun w => by
    have e : amt n = (-n - 1).toNat := by simp [amt, h0]
    rw [e, hx]
    exact needed_any _ w (by omega) (by omega)
  clear hx
  have hK : Hid (numK n = oct (63 - need (amt n)) :: octs (need (amt n)) n) := by
    show numK n = _
    simp [numK, h0]
  generalize need (amt n) = k at hc hK h8
  have HOwn := Lib.hid hown
  clear hown
  go_enter Try.func24, Try.ntmps24
  go_upto_region 2 with (go_at_call 31; refine (needed_some _ _).mono ?_; rintro e w1 ⟨k0, hk0, rfl, rfl⟩)
  clear hk0
  go_wp2_with fail
  go_at_call 31
  refine (hc _).mono ?_
  rintro e w1 ⟨rfl, rfl⟩
  go_upto_region 8 with (at_builtin; refine wpList_append_own_at _ rfl (.tmp 21) (.tmp 24) 39 rfl base 5 i0 (.int .u8 0) 1 1 Try.underlying39 hi hz0 hz1 hz2 rfl (by decide) v l.length (bys l) rfl (HOwn.out.alloc _) ⟨w.heap.size, 0, none⟩ 1 1 [_] rfl rfl (cell_one_new _ _ _) ?c2 ?c3 ?c4 ?c5 ?_)
  case c2 => intro u hu; simp at hu; subst hu; rfl
  case c3 => unfold maxLen; omega
  case c4 => omega
  case c5 => simp; omega
  intro v1 w1 hown1 hg1 _ hat1
  have hG := Grew.step (l := l) (m := [oct (63 - k)]) (by simp) (by simp [bys]; have := oct_toNat (63 - k); omega) hown1 hg1 (by simpa using hat1)
  have HG := Lib.hid hG
  clear hown1 hg1 hat1 hG
  go_wp2_with fail
  go_loopw [0, 7, 27] (fun v2 i c wr => ∃ j : Nat, j ≤ k ∧ c = .int .i64 j ∧ Grew base w v wr v2 (l ++ oct (63 - k) :: (octs k n).take j)) (fun _ _ c _ => k - (intOf c).toNat)
  case atStart => exact ⟨0, by omega, rfl, by simpa using HG.out⟩
  case round =>
  clear HG
  obtain ⟨j, hj, rfl, hG⟩ := hrel
  have HG := Lib.hid hG
  clear hG
  by_cases hlt : j < k
  · go_wp2_with (at_builtin; refine wpList_append_own_at _ rfl (.tmp 30) (.tmp 39) 39 rfl base 5 i0 (.int .u8 0) 1 1 Try.underlying39 hi hz0 hz1 hz2 rfl (by decide) u0 _ (bys (l ++ oct (63 - k) :: (octs k n).take j)) rfl (HG.out.own.alloc _) ⟨wr.heap.size, 0, none⟩ 1 1 [_] rfl rfl (cell_one_new _ _ _) ?c2 ?c3 ?c4 ?c5 ?_)
    case c2 => intro u hu; simp at hu; subst hu; rfl
    case c3 => go_light; simp [octs_length]; unfold maxLen; omega
    case c4 => go_light; simp [octs_length]; omega
    case c5 => go_light; have := HG.out.grown.size; simp; omega
    intro v3 w3 hown3 hg3 _ hat3
    have hG3 := HG.out.trans (Grew.step (l := l ++ oct (63 - k) :: (octs k n).take j) (m := [oct (n / 2 ^ (8 * (k - 1 - j)))]) (by simp) (by simp [bys, oct_toNat]) hown3 hg3 (by simpa using hat3))
    have HG3 := Lib.hid hG3
    clear hown3 hg3 hat3 hG3 HG
    go_wp2
    go_roundw
    case rel => exact ⟨j + 1, by omega, by go_num, by rw [octs_take k n j hlt]; simpa using HG3.out⟩
    case measure => simp [intOf]; omega
  · have e : j = k := by omega
    have hT : (octs k n).take j = octs k n := List.take_of_length_le (by rw [octs_length]; omega)
    have HT := Lib.hid hT
    clear hT e
    go_wp2
    go_ret
    exact ⟨_, rfl, by rw [hK.out, ← HT.out]; exact HG.out⟩

set_option maxHeartbeats 1000000 in
theorem appendNumber_pos (base : Nat) (v : Value) (l : List UInt8) (n : Int) (w : World) (hn : inR n = true) (h0 : 0 ≤ n) (hl : l.length ≤ 100000) (hown : w.ownsRow base 5 1 v l.length (bys l)) (hb : base ≤ w.heap.size) :
    Calls Try.prog 24 #[v, .int .i64 n] w fun e w' => ∃ v', e = .returned v' ∧ Grew base w v w' v' (l ++ numK n) := by
  obtain ⟨i0, hi, hz0, hz1, hz2⟩ := info_parts Try.info5
  have h8 := need8 hn
  rw [inR_iff] at hn
  obtain ⟨n0, n1⟩ := hn
  have hc : ∀ w, Calls Try.prog 31 #[.int .u64 n] w fun e w' => e = .returned (.int .i64 (need (amt n) : Int)) ∧ w = w' := fun w => by
    have e : amt n = n.toNat := by simp [amt]; omega
    rw [e]
    exact needed_any _ w (by omega) (by omega)
  have hc' : ∀ w, Calls Try.prog 31 #[.int .u64 (IntKind.u64.wrap n)] w fun e w' => e = .returned (.int .i64 (need (amt n) : Int)) ∧ w = w' := by
    have e : IntKind.u64.wrap n = n := by rw [u64_wrap]; omega
    rw [e]
    exact hc
  have hK : Hid (numK n = oct (64 + need (amt n)) :: octs (need (amt n)) n) := by
    show numK n = _
    have : ¬ n < 0 := by omega
    simp [numK, this]
  generalize need (amt n) = k at hc hc' hK h8
  have HOwn := Lib.hid hown
  clear hown
  go_enter Try.func24, Try.ntmps24
  go_wp2_with fail
  go_at_call 31
  (with_reducible first | refine (hc _).mono ?_ | refine (hc' _).mono ?_)
  rintro e w1 ⟨rfl, rfl⟩
  go_upto_region 8 with (at_builtin; refine wpList_append_own_at _ rfl (.tmp 21) (.tmp 24) 39 rfl base 5 i0 (.int .u8 0) 1 1 Try.underlying39 hi hz0 hz1 hz2 rfl (by decide) v l.length (bys l) rfl (HOwn.out.alloc _) ⟨w.heap.size, 0, none⟩ 1 1 [_] rfl rfl (cell_one_new _ _ _) ?c2 ?c3 ?c4 ?c5 ?_)
  case c2 => intro u hu; simp at hu; subst hu; rfl
  case c3 => unfold maxLen; omega
  case c4 => omega
  case c5 => simp; omega
  intro v1 w1 hown1 hg1 _ hat1
  have hG := Grew.step (l := l) (m := [oct (64 + k)]) (by simp) (by simp [bys]; have := oct_toNat (64 + k); omega) hown1 hg1 (by simpa using hat1)
  have HG := Lib.hid hG
  clear hown1 hg1 hat1 hG
  go_wp2_with fail
  go_loopw [0, 7, 27] (fun v2 i c wr => ∃ j : Nat, j ≤ k ∧ c = .int .i64 j ∧ Grew base w v wr v2 (l ++ oct (64 + k) :: (octs k n).take j)) (fun _ _ c _ => k - (intOf c).toNat)
  case atStart => exact ⟨0, by omega, rfl, by simpa using HG.out⟩
  case round =>
  clear HG
  obtain ⟨j, hj, rfl, hG⟩ := hrel
  have HG := Lib.hid hG
  clear hG
  by_cases hlt : j < k
  · go_wp2_with (at_builtin; refine wpList_append_own_at _ rfl (.tmp 30) (.tmp 39) 39 rfl base 5 i0 (.int .u8 0) 1 1 Try.underlying39 hi hz0 hz1 hz2 rfl (by decide) u0 _ (bys (l ++ oct (64 + k) :: (octs k n).take j)) rfl (HG.out.own.alloc _) ⟨wr.heap.size, 0, none⟩ 1 1 [_] rfl rfl (cell_one_new _ _ _) ?c2 ?c3 ?c4 ?c5 ?_)
    case c2 => intro u hu; simp at hu; subst hu; rfl
    case c3 => go_light; simp [octs_length]; unfold maxLen; omega
    case c4 => go_light; simp [octs_length]; omega
    case c5 => go_light; have := HG.out.grown.size; simp; omega
    intro v3 w3 hown3 hg3 _ hat3
    have hG3 := HG.out.trans (Grew.step (l := l ++ oct (64 + k) :: (octs k n).take j) (m := [oct (n / 2 ^ (8 * (k - 1 - j)))]) (by simp) (by simp [bys, oct_toNat]) hown3 hg3 (by simpa using hat3))
    have HG3 := Lib.hid hG3
    clear hown3 hg3 hat3 hG3 HG
    go_wp2
    go_roundw
    case rel => exact ⟨j + 1, by omega, by go_num, by rw [octs_take k n j hlt]; simpa using HG3.out⟩
    case measure => simp [intOf]; omega
  · have e : j = k := by omega
    have hT : (octs k n).take j = octs k n := List.take_of_length_le (by rw [octs_length]; omega)
    have HT := Lib.hid hT
    clear hT e
    go_wp2
    go_ret
    exact ⟨_, rfl, by rw [hK.out, ← HT.out]; exact HG.out⟩

theorem appendNumber_any (base : Nat) (v : Value) (l : List UInt8) (n : Int) (w : World) (hn : inR n = true) (hl : l.length ≤ 100000) (hown : w.ownsRow base 5 1 v l.length (bys l)) (hb : base ≤ w.heap.size) :
    Calls Try.prog 24 #[v, .int .i64 n] w fun e w' => ∃ v', e = .returned v' ∧ Grew base w v w' v' (l ++ numK n) := by
  rcases Int.lt_or_le n 0 with h | h
  · exact appendNumber_neg base v l n w hn h hl hown hb
  · exact appendNumber_pos base v l n w hn h hl hown hb

end Go.Proofs.Ytapichngakcpeaa
