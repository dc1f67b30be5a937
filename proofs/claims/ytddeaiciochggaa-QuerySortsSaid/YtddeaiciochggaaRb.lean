/- What query answers of the items of the statements' example, over a group: the walks of Fold, aggregate, column, part and reckoned. Conditions: a group of rows of one value. -/
import Derived.Test.YtddeaiciochggaaRa
namespace Go.Proofs.Ytddeaiciochggaa
open Go.RowKit Go.Sort
set_option linter.unusedSimpArgs false
set_option linter.unusedVariables false

abbrev numA (n : Int) : Value := .agg #[.int .i64 1, .int .i64 n, .string ⟨#[]⟩]
set_option maxHeartbeats 1000000 in
theorem fold18_any (A : Option Addr) (n c : Nat) (w : World) : Calls Try.prog 111 #[.int .i64 18, .slice A n c] w fun e w' => e = .returned (.tuple #[.agg #[.int .i64 1, .int .i64 n, .string ⟨#[]⟩], .int .i64 0]) ∧ Below w.heap.size w w' := by
  have HN := Lib.hid fun W => number_any n W
  have HR := Lib.hid (Row.new w zeroV 96 w.heap.size rfl)
  have HW := Lib.hid (below1 w (.cells #[.int .i64 0, .int .i64 0, .string ⟨#[]⟩] 96))
  go_enter Try.func111, Try.ntmps111
  go_wp2_with (go_at_call 119; (with_reducible refine (HN.out _).mono ?_); rintro e w1 ⟨rfl, hb⟩; have HB1 := Lib.hid (thn HW.out hb); obtain ⟨s0, s1, s2, g0, g1, g2⟩ := (HR.out.below hb).one; clear hb)
  exact bodyPost_ret (v := .tuple #[.agg #[.int .i64 1, .int .i64 n, .string ⟨#[]⟩], .int .i64 0]) (by simp [results, Try.results111, go_sem, s0, s1, s2]) rfl ⟨rfl, HB1.out.trans ((below_set3' w.heap.size w1 _ _ _).mono (by omega))⟩
set_option maxRecDepth 100000 in
set_option maxHeartbeats 4000000 in
theorem agg18_any (A : Option Addr) (n c : Nat) (w : World) (hn : n ≤ 1000) : Calls Try.prog 105 #[.slice A n c, exA 18 0 0] w fun e w' => e = .returned (.tuple #[.agg #[.int .i64 1, .int .i64 n, .string ⟨#[]⟩], .int .i64 0]) ∧ Below w.heap.size w w' := by
  obtain ⟨i0, hi, hz0, hz1, hz2⟩ := info_parts Try.infoV
  have HF := Lib.hid fun (B : Option Addr) (k : Nat) W => fold18_any B n k W
  have HW : Hid (Below w.heap.size w ((w.alloc (.cells #[.int .i64 18, .int .i64 0, .int .i64 0, .string ⟨#[]⟩, .string ⟨#[]⟩, .string ⟨#[]⟩, .slice none 0 0] 98)).alloc (.cells #[.int .i64 0, .int .i64 0, .string ⟨#[]⟩] 96))) := Lib.hid ((below1 _ _).alloc (by simp) _)
  have HR : Hid (Row ((w.alloc (.cells #[.int .i64 18, .int .i64 0, .int .i64 0, .string ⟨#[]⟩, .string ⟨#[]⟩, .string ⟨#[]⟩, .slice none 0 0] 98)).alloc (.cells #[.int .i64 0, .int .i64 0, .string ⟨#[]⟩] 96)) (w.heap.size + 1) [zeroV]) := Lib.hid (Row.new (w.alloc (.cells #[.int .i64 18, .int .i64 0, .int .i64 0, .string ⟨#[]⟩, .string ⟨#[]⟩, .string ⟨#[]⟩, .slice none 0 0] 98)) zeroV 96 (w.heap.size + 1) (by simp))
  have x0 : ((w.alloc (.cells #[.int .i64 18, .int .i64 0, .int .i64 0, .string ⟨#[]⟩, .string ⟨#[]⟩, .string ⟨#[]⟩, .slice none 0 0] 98)).alloc (.cells #[.int .i64 0, .int .i64 0, .string ⟨#[]⟩] 96)).cell? ⟨w.heap.size, 0, none⟩ = some (.int .i64 18) := ((below1 _ _).cell (p := ⟨w.heap.size, 0, none⟩) (by simp)).trans ((cell_last _ _ _ _ _ rfl).trans rfl)
  have X0 := Lib.hid x0
  clear x0
  unfold exA
  go_enter Try.func105, Try.ntmps105
  go_upto_region 1 with fail
  generalize (w.alloc (.cells #[.int .i64 18, .int .i64 0, .int .i64 0, .string ⟨#[]⟩, .string ⟨#[]⟩, .string ⟨#[]⟩, .slice none 0 0] 98)).alloc (.cells #[.int .i64 0, .int .i64 0, .string ⟨#[]⟩] 96) = w2 at HW HR X0 ⊢
  go_upto_region 2 with (refine wpList_make_full w2 rfl (.tmp 12) (.tmp 12) 85 rfl w2.heap.size 96 i0 (.agg #[.int .i64 0, .int .i64 0, .string ⟨#[]⟩]) 3 Try.underlying85 hi hz0 hz1 .i64 .i64 _ _ n rfl rfl rfl rfl (by rw [hz2]; omega) (by unfold maxLen; omega) (Nat.le_refl _) ?_; intro w3 hown hg; have hb3 : Below w2.heap.size w2 w3 := (Below.refl _ _).grown hg (Nat.le_refl _) (fun k hk => by cases hk); have HB3 := Lib.hid (thn HW.out hb3); have HR3 := Lib.hid (HR.out.below hb3); have y0 := (hb3.cell (cell_lt X0.out)).trans X0.out; clear hown hg hb3)
  go_wp2_with (go_at_call 111; (with_reducible refine (HF.out _ _ _).mono ?_); rintro e w4 ⟨rfl, hb⟩; have HB4 := Lib.hid (thn HB3.out hb); obtain ⟨s0, s1, s2, g0, g1, g2⟩ := (HR3.out.below hb).one; clear hb)
  exact bodyPost_ret (v := .tuple #[.agg #[.int .i64 1, .int .i64 n, .string ⟨#[]⟩], .int .i64 0]) (by simp [results, Try.results105, go_sem, s0, s1, s2]) rfl ⟨rfl, HB4.out.trans ((below_set3' (w.heap.size + 1) w4 _ _ _).mono (by omega))⟩
set_option maxHeartbeats 4000000 in
theorem gcol_any (G : Addr) (n c : Nat) (B : Addr) (bc : Nat) (v : Vl) (w : World) (h0 : w.cell? G = some (.slice (some B) 1 bc)) (h : RdL w (some B) [v]) (hn : 0 < n) : Calls Try.prog 106 #[.slice (some G) n c, .int .i64 0] w fun e w' => e = .returned (.tuple #[.agg #[.int .i64 v.k, .int .i64 v.n, .string v.s], .int .i64 0]) ∧ Below w.heap.size w w' := by
  have HE := Lib.hid fun W (hb : Below w.heap.size w W) => eval1_any B bc v 0 W (h.below hb)
  have HW := Lib.hid (below1 w (.cells #[.int .i64 0, .int .i64 0, .string ⟨#[]⟩] 96))
  have HR : Hid (Row (w.alloc (.cells #[.int .i64 0, .int .i64 0, .string ⟨#[]⟩] 96)) w.heap.size [zeroV]) := Lib.hid (Row.new w zeroV 96 w.heap.size rfl)
  have x0 := ((below1 w (.cells #[.int .i64 0, .int .i64 0, .string ⟨#[]⟩] 96)).cell (cell_lt h0)).trans h0
  have hgl := cell_lt x0
  have hn' : (0 : Int) < (n : Int) := by omega
  have hne : ((n : Int) == 0) = false := by simp; omega
  unfold exA at HE
  clear h h0
  go_enter Try.func106, Try.ntmps106
  go_upto_region 1 with fail
  generalize w.alloc (.cells #[.int .i64 0, .int .i64 0, .string ⟨#[]⟩] 96) = w1 at HW HR x0 hgl ⊢
  go_wp2_with (go_at_call 112; (with_reducible refine (HE.out _ HW.out).mono ?_); rintro e w2 ⟨rfl, hb⟩; have HB2 := Lib.hid (thn HW.out hb); obtain ⟨s0, s1, s2, g0, g1, g2⟩ := (HR.out.below hb).one; clear hb)
  exact bodyPost_ret (v := .tuple #[.agg #[.int .i64 v.k, .int .i64 v.n, .string v.s], .int .i64 0]) (by simp [results, Try.results106, go_sem, s0, s1, s2]) rfl ⟨rfl, HB2.out.trans ((below_set3' w.heap.size w2 _ _ _).mono (by omega))⟩
set_option maxHeartbeats 4000000 in
theorem p18_any (A : Option Addr) (n c : Nat) (w : World) (hn : n ≤ 1000) : Calls Try.prog 81 #[.slice A n c, exA 18 0 0, .int .i64 1] w fun e w' => e = .returned (.tuple #[.agg #[.int .i64 1, .int .i64 n, .string ⟨#[]⟩], .int .i64 0]) ∧ Below w.heap.size w w' := by
  have HI := Lib.hid fun W => isAgg_any 18 true (by simp) W
  have HQ := Lib.hid fun W (_ : Below w.heap.size w W) => agg18_any A n c W hn
  have HW : Hid (Below w.heap.size w ((w.alloc (.cells #[.int .i64 18, .int .i64 0, .int .i64 0, .string ⟨#[]⟩, .string ⟨#[]⟩, .string ⟨#[]⟩, .slice none 0 0] 98)).alloc (.cells #[.int .i64 0, .int .i64 0, .string ⟨#[]⟩] 96))) := Lib.hid ((below1 _ _).alloc (by simp) _)
  have HR := Lib.hid (Row.new (w.alloc (.cells #[.int .i64 18, .int .i64 0, .int .i64 0, .string ⟨#[]⟩, .string ⟨#[]⟩, .string ⟨#[]⟩, .slice none 0 0] 98)) zeroV 96 (w.heap.size + 1) (by simp))
  skip
  unfold exA
  try unfold exA at HQ
  go_enter Try.func81, Try.ntmps81
  go_wp2_with (first
    | (go_at_call 104; (with_reducible refine (HI.out _).mono ?_); rintro e w1 ⟨rfl, rfl⟩)
    | (go_at_call 105; (with_reducible refine (HQ.out _ HW.out).mono ?_); rintro e w2 ⟨rfl, hb⟩; have HB2 := Lib.hid (thn HW.out hb); obtain ⟨s0, s1, s2, g0, g1, g2⟩ := (HR.out.below hb).one; clear hb))
  exact bodyPost_ret (v := .tuple #[.agg #[.int .i64 1, .int .i64 n, .string ⟨#[]⟩], .int .i64 0]) (by simp [results, Try.results81, go_sem, s0, s1, s2]) rfl ⟨rfl, HB2.out.trans ((below_set3' (w.heap.size + 1) w2 _ _ _).mono (by omega))⟩
set_option maxHeartbeats 4000000 in
theorem rp18_any (A : Option Addr) (n c : Nat) (w : World) (hn : n ≤ 1000) : Calls Try.prog 68 #[exA 18 0 0, .slice A n c] w fun e w' => e = .returned (.tuple #[.agg #[.int .i64 1, .int .i64 n, .string ⟨#[]⟩], .int .i64 0]) ∧ Below w.heap.size w w' := by
  have HQ := Lib.hid fun W (_ : Below w.heap.size w W) => p18_any A n c W hn
  have HW : Hid (Below w.heap.size w ((w.alloc (.cells #[.int .i64 18, .int .i64 0, .int .i64 0, .string ⟨#[]⟩, .string ⟨#[]⟩, .string ⟨#[]⟩, .slice none 0 0] 98)).alloc (.cells #[.int .i64 0, .int .i64 0, .string ⟨#[]⟩] 96))) := Lib.hid ((below1 _ _).alloc (by simp) _)
  have HR := Lib.hid (Row.new (w.alloc (.cells #[.int .i64 18, .int .i64 0, .int .i64 0, .string ⟨#[]⟩, .string ⟨#[]⟩, .string ⟨#[]⟩, .slice none 0 0] 98)) zeroV 96 (w.heap.size + 1) (by simp))
  skip
  unfold exA
  unfold exA at HQ
  go_enter Try.func68, Try.ntmps68
  go_wp2_with (go_at_call 81; (with_reducible refine (HQ.out _ HW.out).mono ?_); rintro e w2 ⟨rfl, hb⟩; have HB2 := Lib.hid (thn HW.out hb); obtain ⟨s0, s1, s2, g0, g1, g2⟩ := (HR.out.below hb).one; clear hb)
  exact bodyPost_ret (v := .tuple #[.agg #[.int .i64 1, .int .i64 n, .string ⟨#[]⟩], .int .i64 0]) (by simp [results, Try.results68, go_sem, s0, s1, s2]) rfl ⟨rfl, HB2.out.trans ((below_set3' (w.heap.size + 1) w2 _ _ _).mono (by omega))⟩
set_option maxHeartbeats 4000000 in
theorem p1_any (G : Addr) (n c : Nat) (B : Addr) (bc : Nat) (v : Vl) (w : World) (h0 : w.cell? G = some (.slice (some B) 1 bc)) (h : RdL w (some B) [v]) (hn : 0 < n) : Calls Try.prog 81 #[.slice (some G) n c, exA 1 1 0, .int .i64 1] w fun e w' => e = .returned (.tuple #[.agg #[.int .i64 v.k, .int .i64 v.n, .string v.s], .int .i64 0]) ∧ Below w.heap.size w w' := by
  have HI := Lib.hid fun W => isAgg_any 1 false (by simp) W
  have HQ := Lib.hid fun W (hb : Below w.heap.size w W) => gcol_any G n c B bc v W ((hb.cell (cell_lt h0)).trans h0) (h.below hb) hn
  have HW : Hid (Below w.heap.size w ((w.alloc (.cells #[.int .i64 1, .int .i64 1, .int .i64 0, .string ⟨#[]⟩, .string ⟨#[]⟩, .string ⟨#[]⟩, .slice none 0 0] 98)).alloc (.cells #[.int .i64 0, .int .i64 0, .string ⟨#[]⟩] 96))) := Lib.hid ((below1 _ _).alloc (by simp) _)
  have HR := Lib.hid (Row.new (w.alloc (.cells #[.int .i64 1, .int .i64 1, .int .i64 0, .string ⟨#[]⟩, .string ⟨#[]⟩, .string ⟨#[]⟩, .slice none 0 0] 98)) zeroV 96 (w.heap.size + 1) (by simp))
  clear h h0
  unfold exA
  try unfold exA at HQ
  go_enter Try.func81, Try.ntmps81
  go_wp2_with (first
    | (go_at_call 104; (with_reducible refine (HI.out _).mono ?_); rintro e w1 ⟨rfl, rfl⟩)
    | (go_at_call 106; (with_reducible refine (HQ.out _ HW.out).mono ?_); rintro e w2 ⟨rfl, hb⟩; have HB2 := Lib.hid (thn HW.out hb); obtain ⟨s0, s1, s2, g0, g1, g2⟩ := (HR.out.below hb).one; clear hb))
  exact bodyPost_ret (v := .tuple #[.agg #[.int .i64 v.k, .int .i64 v.n, .string v.s], .int .i64 0]) (by simp [results, Try.results81, go_sem, s0, s1, s2]) rfl ⟨rfl, HB2.out.trans ((below_set3' (w.heap.size + 1) w2 _ _ _).mono (by omega))⟩
set_option maxHeartbeats 4000000 in
theorem rp1_any (G : Addr) (n c : Nat) (B : Addr) (bc : Nat) (v : Vl) (w : World) (h0 : w.cell? G = some (.slice (some B) 1 bc)) (h : RdL w (some B) [v]) (hn : 0 < n) : Calls Try.prog 68 #[exA 1 1 0, .slice (some G) n c] w fun e w' => e = .returned (.tuple #[.agg #[.int .i64 v.k, .int .i64 v.n, .string v.s], .int .i64 0]) ∧ Below w.heap.size w w' := by
  have HQ := Lib.hid fun W (hb : Below w.heap.size w W) => p1_any G n c B bc v W ((hb.cell (cell_lt h0)).trans h0) (h.below hb) hn
  have HW : Hid (Below w.heap.size w ((w.alloc (.cells #[.int .i64 1, .int .i64 1, .int .i64 0, .string ⟨#[]⟩, .string ⟨#[]⟩, .string ⟨#[]⟩, .slice none 0 0] 98)).alloc (.cells #[.int .i64 0, .int .i64 0, .string ⟨#[]⟩] 96))) := Lib.hid ((below1 _ _).alloc (by simp) _)
  have HR := Lib.hid (Row.new (w.alloc (.cells #[.int .i64 1, .int .i64 1, .int .i64 0, .string ⟨#[]⟩, .string ⟨#[]⟩, .string ⟨#[]⟩, .slice none 0 0] 98)) zeroV 96 (w.heap.size + 1) (by simp))
  clear h h0
  unfold exA
  unfold exA at HQ
  go_enter Try.func68, Try.ntmps68
  go_wp2_with (go_at_call 81; (with_reducible refine (HQ.out _ HW.out).mono ?_); rintro e w2 ⟨rfl, hb⟩; have HB2 := Lib.hid (thn HW.out hb); obtain ⟨s0, s1, s2, g0, g1, g2⟩ := (HR.out.below hb).one; clear hb)
  exact bodyPost_ret (v := .tuple #[.agg #[.int .i64 v.k, .int .i64 v.n, .string v.s], .int .i64 0]) (by simp [results, Try.results68, go_sem, s0, s1, s2]) rfl ⟨rfl, HB2.out.trans ((below_set3' (w.heap.size + 1) w2 _ _ _).mono (by omega))⟩
end Go.Proofs.Ytddeaiciochggaa
