/- Copies of expressions in memory of their own: the walks of CopyExpr and CopyExprs. Conditions: expressions that are read in memory. -/
import Derived.Test.YtipcacplphidhaaGreatTc
import Derived.Test.YtipcacplphidhaaGreatProg
import Derived.Outline
namespace Go.Proofs.YtipcacplphidhaaGreat.Sy
open Go.RowKit
set_option linter.unusedSimpArgs false
set_option linter.unusedVariables false

theorem Tryz.infoE : (Tryz.prog.info? 62).map (fun i => (i.zero, i.size, i.bytes)) = some (some (.agg #[.int .i64 0, .int .i64 0, .int .i64 0, .string ⟨#[]⟩, .string ⟨#[]⟩, .string ⟨#[]⟩, .slice none 0 0]), 7, 96) := by kernel_rfl
theorem Tryz.infoR : (Tryz.prog.info? 28).map (fun i => (i.zero, i.size, i.bytes)) = some (some (.slice none 0 0), 1, 24) := by kernel_rfl
theorem Tryz.infoS : (Tryz.prog.info? 64).map (fun i => (i.zero, i.size, i.bytes)) = some (some (.agg #[.string ⟨#[]⟩, .int .i64 0, .int .i64 0, .int .i64 0, .string ⟨#[]⟩, .string ⟨#[]⟩, .string ⟨#[]⟩, .slice none 0 0]), 8, 112) := by kernel_rfl
theorem Tryz.infoC : (Tryz.prog.info? 48).map (fun i => (i.zero, i.size, i.bytes)) = some (some (.agg #[.string ⟨#[]⟩, .int .i64 0, .bool false]), 3, 32) := by kernel_rfl
theorem Tryz.infoO : (Tryz.prog.info? 85).map (fun i => (i.zero, i.size, i.bytes)) = some (some (.agg #[.int .i64 0, .bool false]), 2, 16) := by kernel_rfl

theorem heap1 {w w1 : World} {o : Obj} (hb : Below (w.alloc o).heap.size (w.alloc o) w1) : w1.heap[w.heap.size]? = some o := by
  rw [hb.block _ (by simp), heap_alloc_new]
theorem heap2 {w w1 : World} {o p : Obj} (hb : Below ((w.alloc o).alloc p).heap.size ((w.alloc o).alloc p) w1) : w1.heap[w.heap.size]? = some o ∧ w1.heap[w.heap.size + 1]? = some p := by
  refine ⟨?_, ?_⟩
  · rw [hb.block _ (by simp; omega), Below.heap_alloc _ _ _ (by simp), heap_alloc_new]
  · have := heap_alloc_new (w.alloc o) p
    rw [World.size_alloc] at this
    rw [hb.block _ (by simp), this]
theorem two7 {w w1 : World} {a0 a1 a2 a3 a4 a5 a6 b0 b1 b2 b3 b4 b5 b6 : Value} {s t : TypeId} (hb : Below ((w.alloc (.cells #[a0, a1, a2, a3, a4, a5, a6] s)).alloc (.cells #[b0, b1, b2, b3, b4, b5, b6] t)).heap.size ((w.alloc (.cells #[a0, a1, a2, a3, a4, a5, a6] s)).alloc (.cells #[b0, b1, b2, b3, b4, b5, b6] t)) w1) :
    w1.cell? ⟨w.heap.size, 0, none⟩ = some a0 ∧ w1.cell? ⟨w.heap.size, 1, none⟩ = some a1 ∧ w1.cell? ⟨w.heap.size, 2, none⟩ = some a2 ∧ w1.cell? ⟨w.heap.size, 3, none⟩ = some a3 ∧ w1.cell? ⟨w.heap.size, 4, none⟩ = some a4 ∧ w1.cell? ⟨w.heap.size, 5, none⟩ = some a5 ∧ w1.cell? ⟨w.heap.size, 6, none⟩ = some a6 ∧ w1.frozen? ⟨w.heap.size, 6, none⟩ = false ∧
    w1.cell? ⟨w.heap.size + 1, 0, none⟩ = some b0 ∧ w1.cell? ⟨w.heap.size + 1, 1, none⟩ = some b1 ∧ w1.cell? ⟨w.heap.size + 1, 2, none⟩ = some b2 ∧ w1.cell? ⟨w.heap.size + 1, 3, none⟩ = some b3 ∧ w1.cell? ⟨w.heap.size + 1, 4, none⟩ = some b4 ∧ w1.cell? ⟨w.heap.size + 1, 5, none⟩ = some b5 ∧ w1.cell? ⟨w.heap.size + 1, 6, none⟩ = some b6 ∧
    w1.frozen? ⟨w.heap.size + 1, 0, none⟩ = false ∧ w1.frozen? ⟨w.heap.size + 1, 1, none⟩ = false ∧ w1.frozen? ⟨w.heap.size + 1, 2, none⟩ = false ∧ w1.frozen? ⟨w.heap.size + 1, 3, none⟩ = false ∧ w1.frozen? ⟨w.heap.size + 1, 4, none⟩ = false ∧ w1.frozen? ⟨w.heap.size + 1, 5, none⟩ = false ∧ w1.frozen? ⟨w.heap.size + 1, 6, none⟩ = false := by
  obtain ⟨e1, e2⟩ := heap2 hb
  simp [World.cell?, World.frozen?, e1, e2]

/-- What CopyExprs is to answer of l at A. -/
def CopiesTo (n : Nat) (l : List (Ar n)) (w : World) (e : Ending) (w' : World) : Prop := ∃ a c, e = .returned (.slice a l.length c) ∧ RdK (KE n) (fun b => w.heap.size ≤ b) w' a c l ∧ Below w.heap.size w w'

set_option maxHeartbeats 1000000 in
set_option maxRecDepth 100000 in
theorem copyExpr_of {n : Nat} (x : ExN (Ar n)) (a : Option Addr) (c : Nat) (w : World) (hL : ∀ w', Below w.heap.size w w' → Calls Tryz.prog 13 #[.slice a x.l.length c] w' (CopiesTo n x.l w')) :
    Calls Tryz.prog 14 #[x.val a c] w fun e w' => ∃ a' c', e = .returned (x.val a' c') ∧ RdK (KE n) (fun b => w.heap.size ≤ b) w' a' c' x.l ∧ Below w.heap.size w w' := by
  obtain ⟨op, ⟨k, v, s, hv⟩, t, m, l⟩ := x
  unfold ExN.val
  have HL := Lib.hid hL
  clear hL
  dsimp only at HL ⊢
  go_enter Tryz.func14, Tryz.ntmps14
  go_wp2_with (go_at_call 13; refine (HL.out _ (below2 _ _ _)).mono ?_; rintro e w1 ⟨a1, c1, rfl, hr, hb⟩; obtain ⟨k0, k1, k2, k3, k4, k5, k6, f6, q0, q1, q2, q3, q4, q5, q6, g0, g1, g2, g3, g4, g5, g6⟩ := two7 hb; have HR := Lib.hid (hr.mono (KE_ok n) (S' := fun b => w.heap.size + 2 ≤ b) (fun b h _ => (by simp at h; omega))); have HB0 := Lib.hid hb; have HB := Lib.hid (below_of2 hb); clear hr hb)
  refine bodyPost_ret (v := .agg #[.int .i64 op, .int .i64 k, .int .i64 v, .string s, .string t, .string m, .slice a1 l.length c1]) (by simp [results, Tryz.results14, go_sem, k0, k1, k2, k3, k4, k5, k6, q0, q1, q2, q3, q4, q5, q6]) rfl ⟨a1, c1, rfl, ?_, ?_⟩
  · refine (HR.out.out (KE_ok n) ?_).mono (KE_ok n) fun b hb _ => (by omega)
    ((repeat (with_reducible refine Out.set ?_ (by simp) _)); with_reducible exact Out.refl _ _)
  · have hB := HB.out
    exact (by (repeat (first | (with_reducible assumption) | (with_reducible exact Below.refl _ _) | (with_reducible refine Below.setCell ?_ (by first | omega | (simp; done) | (simp; omega)) _) | (with_reducible refine Below.alloc ?_ (by first | omega | (simp; done) | (simp; omega)) _) | (with_reducible refine below_drewN ?_ _) | (with_reducible refine Below.drew ?_))))

set_option maxHeartbeats 1000000 in
set_option maxRecDepth 100000 in
theorem copyExprs_of {n : Nat} (hE : ∀ (x : Ar n) (a : Option Addr) (c : Nat) (w : World), RdE w (n - 1) a c x.e.l → Calls Tryz.prog 14 #[x.e.val a c] w fun e w' => ∃ a' c', e = .returned (x.e.val a' c') ∧ RdK (KE (n - 1)) (fun b => w.heap.size ≤ b) w' a' c' x.e.l ∧ Below w.heap.size w w')
    (A : Option Addr) (k c : Nat) (l : List (Ar n)) (w : World) (hl : k = l.length) (rl : RdE w n A c l) :
    Calls Tryz.prog 13 #[.slice A k c] w (CopiesTo n l w) := by
  have hk : k ≤ 9223372036854775807 := by have := rl.hdr.2; omega
  have hk2 : k * 96 ≤ 140737488355328 := by have := rl.2.1; rw [KE_b] at this; omega
  obtain ⟨i0, hi, hz0, hz1, hz2⟩ := info_parts Tryz.infoE
  have RL := Lib.hid rl
  have HL := Lib.hid hl
  have HE := Lib.hid hE
  clear rl hl hE
  go_enter Tryz.func13, Tryz.ntmps13
  go_wp2_with fail
  go_loopw [3, 4] (fun v i wr => ∃ j : Nat, j ≤ k ∧ i = .int .i64 j ∧ Owned (KE n) 62 w.heap.size wr v (l.take j) ∧ Below w.heap.size w wr) (fun _ i _ => k - (intOf i).toNat)
  case atStart => exact ⟨0, by omega, rfl, Owned.nil _ _ _ _, Below.refl _ _⟩
  case round =>
    obtain ⟨j, hj, rfl, hO, hB⟩ := hrel
    have HO := Lib.hid hO
    have HB := Lib.hid hB
    clear hO hB
    by_cases hlt : j < k
    · obtain ⟨ad, a1, c1, rfl, ⟨p0, p1, p2, p3, p4, p5, p6⟩, r1⟩ := (RL.out.below (KE_ok n) HB.out).at_ (j := j) (by have := HL.out; omega)
      have lj : j < l.length := by have := HL.out; omega
      have hx : l[j]? = some l[j] := List.getElem?_eq_getElem lj
      generalize l[j] = x at p0 p1 p2 p3 p4 p5 p6 r1 hx
      have HX := Lib.hid hx
      have hc := HE.out x a1 c1 wr r1
      clear hx r1
      obtain ⟨ps, hps, hog⟩ := HO.out
      have hpl := map_len hps (by omega)
      have B3 : Hid (ps.length + 1 ≤ maxLen) := Lib.hid (by unfold maxLen; omega)
      have B4 : Hid ((ps.length + 1) * 96 ≤ 140737488355328) := Lib.hid (by omega)
      have HPS := Lib.hid hps
      have HPL := Lib.hid hpl
      have HOG := Lib.hid hog
      have hz := HB.out.size
      have one := ExN.cs_one x.e
      have HC := Lib.hid hc
      clear hps hog hpl hc
      go_wp2_with (first | (go_at_call 14; refine HC.out.mono ?_; rintro e w1 ⟨a2, c2, rfl, hr, hb⟩; have HR := Lib.hid hr; have HB1 := Lib.hid hb; have hzb := hb.size; clear hr hb) | (at_builtin; refine wpList_append_own_at _ rfl (.tmp 11) (.tmp 17) 28 rfl w.heap.size 62 i0 (.agg #[.int .i64 0, .int .i64 0, .int .i64 0, .string ⟨#[]⟩, .string ⟨#[]⟩, .string ⟨#[]⟩, .slice none 0 0]) 7 96 Tryz.underlying28 hi hz0 hz1 hz2 rfl (by decide) _ _ _ rfl (ownE HOG.out HB1.out) ⟨w1.heap.size, 0, none⟩ 1 1 (x.e.cs a2 c2) rfl rfl (new_cells w1 _ _) (one _ _) B3.out B4.out (by simp; omega) ?_; intro v2 w2 hown hg _ hat; have HOG2 := Lib.hid (OwnG.stepE HOG.out HB1.out HB.out.size HR.out hown hg hat); have HB2 := Lib.hid (below_grow HB.out HB1.out HB.out.size (ownE HOG.out HB1.out) hg); clear hown hg hat))
      go_roundw
      case rel => exact ⟨j + 1, by omega, by go_num, ⟨_, map_snoc HPS.out HX.out, HOG2.out⟩, HB2.out⟩
      case measure => simp [intOf]; omega
    · have h1 : l.take j = l := List.take_of_length_le (by have := HL.out; omega)
      obtain ⟨A1, c1, rfl, hr⟩ := HO.out.read (KE_ok n) (by rw [h1, KE_b]; have := HL.out; omega)
      rw [h1] at hr ⊢
      have HR := Lib.hid hr
      clear hr h1
      go_wp2
      go_ret
      exact ⟨A1, c1, rfl, HR.out, HB.out⟩

theorem copyExprs_any : ∀ (n : Nat) (A : Option Addr) (c : Nat) (l : List (Ar n)) (w : World), RdE w n A c l → Calls Tryz.prog 13 #[.slice A l.length c] w (CopiesTo n l w)
  | 0, A, c, l, w, rl => copyExprs_of (n := 0) (fun (x : Ar 0) => Empty.elim x) A l.length c l w rfl rl
  | n + 1, A, c, l, w, rl => copyExprs_of (n := n + 1) (fun (x : ExN (Ar n)) a c w h => copyExpr_of x a c w fun w' hb => copyExprs_any n a c _ w' (h.below (KE_ok n) hb)) A l.length c l w rfl rl
theorem copyExpr_any {n : Nat} (x : ExN (Ar n)) (a : Option Addr) (c : Nat) (w : World) (h : RdE w n a c x.l) :
    Calls Tryz.prog 14 #[x.val a c] w fun e w' => ∃ a' c', e = .returned (x.val a' c') ∧ RdK (KE n) (fun b => w.heap.size ≤ b) w' a' c' x.l ∧ Below w.heap.size w w' :=
  copyExpr_of x a c w fun w' hb => copyExprs_any n a c _ w' (h.below (KE_ok n) hb)
end Go.Proofs.YtipcacplphidhaaGreat.Sy
