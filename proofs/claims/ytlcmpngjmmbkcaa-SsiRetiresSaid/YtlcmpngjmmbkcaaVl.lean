/- What New of package ssi, and the law's num and Of answer: the walks. Conditions: a state that is read in memory, within reach. -/
import Derived.Test.YtlcmpngjmmbkcaaVk
import Derived.Laws.AppendOwn
import Derived.OwnWalk
namespace Go.Proofs.Ytlcmpngjmmbkcaa
open Go.RowKit Go.Sort Go.Maps
set_option linter.unusedSimpArgs false
set_option linter.unusedVariables false

theorem num_any (n : Int) (w : World) : Calls Try.prog 10 #[.int .i64 n] w fun e w' => e = .returned (.int .i64 n) ∧ w = w' := by
  go_enter Try.func10, Try.ntmps10
  go_wp2
  go_ret
  exact ⟨rfl, rfl⟩
theorem step_append_own {P : Program} {ops : Array Oper} {o : Oper} {a : Act} {w : World} {K : Act → World → Prop} {Q : Exit → Act → World → Prop} {E : Prop} (hgd : o.guard = none) (s x : Operand) (t : TypeId)
    (ho : o.op = .call { callee := .builtin .append, args := #[s, x], argTypes := #[t, t] })
    (base : Nat) (e : TypeId) (i : TypeInfo) (z : Value) (size bytes : Nat) (ht : P.underlying t = some (.slice e)) (hi : P.info? e = some i) (hz : i.zero = some z)
    (hsize : i.size = size) (hby : i.bytes = bytes) (hzs : z.cells.size = size) (hsz : 0 < size)
    (v : Value) (n : Nat) (xs : List Value) (hs : a.eval s = v) (hown : w.ownsRow base e size v n xs)
    (ad : Addr) (m c : Nat) (news : List Value) (hx : a.eval x = .slice (some ad) m c) (hl : news.length = m * size) (hnews : ∀ j u, news[j]? = some u → w.cell? (ad.add j) = some u) (h1 : ∀ u ∈ news, u.oneCell' = true)
    (h63 : n + m ≤ maxLen) (hbytes : (n + m) * bytes ≤ 140737488355328) (hbase : base ≤ w.heap.size)
    (h : ∀ v' w', w'.ownsRow base e size v' (n + m) (xs ++ news) → w.grownBy w' v.ownBlock → K (a.put o.dst v') w') :
    if Region.wanted o (yielded ops a.tmps) = true then Oper.wp P o a w K Q else E := by
  have hw : Region.wanted o (yielded ops a.tmps) = true := by simp [Region.wanted, hgd]
  rw [if_pos hw]
  exact wp_append_own w s x t ho base e i z size bytes ht hi hz hsize hby hzs hsz v n xs hs hown ad m c news hx hl hnews h1 h63 hbytes hbase fun v' w' a1 a2 _ => h v' w' a1 a2
def nS : St := ⟨[], 0, 1⟩
theorem new_any (w : World) : Calls Try.prog 16 #[] w fun e w' => e = .returned (.agg #[.slice none 0 0, .int .i64 0, .int .i64 1]) ∧ Below w.heap.size w w' := by
  have h := Bx.new w (.slice none 0 0) (.int .i64 0) (.int .i64 0) 28
  have hb := below1 w (.cells #[.slice none 0 0, .int .i64 0, .int .i64 0] 28)
  have H := Lib.hid h
  have HB := Lib.hid hb
  obtain ⟨c0, c1, c2, f0, f1, f2⟩ := h
  clear hb
  go_enter Try.func16, Try.ntmps16
  go_upto_region 1 with fail
  generalize w.alloc (.cells #[.slice none 0 0, .int .i64 0, .int .i64 0] 28) = W0 at *
  obtain ⟨q0, q1, q2, _, _, _⟩ := H.out.set3 (.slice none 0 0) (.int .i64 0) (.int .i64 1)
  go_wp2_with fail
  exact bodyPost_ret (v := .agg #[.slice none 0 0, .int .i64 0, .int .i64 1]) (by simp [results, Try.results16, go_sem, q0, q1, q2]) rfl ⟨rfl, ((HB.out.setCell (by simp) _).setCell (by simp) _).setCell (by simp) _⟩
theorem new_ok : Ok nS := ⟨by simp [nS], by simp [nS], by simp [nS], by simp [nS], by simp [nS], by simp [nS], by simp [nS], by simp [nS], by simp [nS]⟩
/-- A state alone. -/
def AnsS (s : St) (w : World) (e : Ending) (w' : World) : Prop := ∃ A n c, e = .returned (.agg #[.slice A n c, .int .i64 s.c, .int .i64 s.n]) ∧ Rd w' A n c s.l ∧ Below w.heap.size w w'
/-- Of's frame. -/
structure OfF (w W : World) (B gs gr go : Nat) (A : Option Addr) (n c : Nat) (ck nx : Int) (A1 : Option Addr) (j c1 : Nat) : Prop where
  s : Bx W gs (.slice A n c) (.int .i64 ck) (.int .i64 nx)
  r : Bx W gr (.slice none 0 0) (.int .i64 0) (.int .i64 0)
  o : Bx W go (.slice A1 j c1) (.int .i64 ck) (.int .i64 nx)
  b : Below w.heap.size w W
  z : B ≤ W.heap.size
set_option maxRecDepth 100000 in
set_option maxHeartbeats 8000000 in
theorem of_any (A : Option Addr) (n c : Nat) (s : St) (w : World) (hr : Rd w A n c s.l) (hn : n * 32 ≤ 140737488355328) :
    Calls Try.prog 9 #[.agg #[.slice A n c, .int .i64 s.c, .int .i64 s.n]] w (AnsS s w) := by
  obtain ⟨i0, hi, hz0, hz1, hz2⟩ := info_parts Try.infoV
  obtain ⟨l, ck, nx⟩ := s
  simp only at hr ⊢
  have hl := hr.len
  have hcap := hr.cap
  have hle := hr.le
  subst hl
  have HR := Lib.hid hr
  clear hr
  have b1 := below1 w (.cells #[.slice A l.length c, .int .i64 ck, .int .i64 nx] 24)
  have b2 := below1 (w.alloc (.cells #[.slice A l.length c, .int .i64 ck, .int .i64 nx] 24)) (.cells #[.slice none 0 0, .int .i64 0, .int .i64 0] 28)
  have b3 := below1 ((w.alloc (.cells #[.slice A l.length c, .int .i64 ck, .int .i64 nx] 24)).alloc (.cells #[.slice none 0 0, .int .i64 0, .int .i64 0] 28)) (.cells #[.slice none 0 0, .int .i64 ck, .int .i64 nx] 28)
  have x1 := Bx.new w (.slice A l.length c) (.int .i64 ck) (.int .i64 nx) 24
  have x2 := Bx.new (w.alloc (.cells #[.slice A l.length c, .int .i64 ck, .int .i64 nx] 24)) (.slice none 0 0) (.int .i64 0) (.int .i64 0) 28
  have x3 := Bx.new ((w.alloc (.cells #[.slice A l.length c, .int .i64 ck, .int .i64 nx] 24)).alloc (.cells #[.slice none 0 0, .int .i64 0, .int .i64 0] 28)) (.slice none 0 0) (.int .i64 ck) (.int .i64 nx) 28
  rw [World.size_alloc] at x2
  rw [World.size_alloc, World.size_alloc] at x3
  have hof : OfF w (((w.alloc (.cells #[.slice A l.length c, .int .i64 ck, .int .i64 nx] 24)).alloc (.cells #[.slice none 0 0, .int .i64 0, .int .i64 0] 28)).alloc (.cells #[.slice none 0 0, .int .i64 ck, .int .i64 nx] 28)) (w.heap.size + 3) w.heap.size (w.heap.size + 1) (w.heap.size + 1 + 1) A l.length c ck nx none 0 0 :=
    ⟨(x1.below b2).below b3, x2.below b3, x3, thn (thn b1 b2) b3, by simp⟩
  have HOF := Lib.hid hof
  have k0 := (x1.below b2)
  have k1 := k0.c1
  have k2 := k0.c2
  clear b1 b2 b3 x1 x2 x3 hof k0
  go_enter Try.func9, Try.ntmps9
  go_upto_region 2 with fail
  clear k1 k2
  generalize ((w.alloc (.cells #[.slice A l.length c, .int .i64 ck, .int .i64 nx] 24)).alloc (.cells #[.slice none 0 0, .int .i64 0, .int .i64 0] 28)).alloc (.cells #[.slice none 0 0, .int .i64 ck, .int .i64 nx] 28) = w0 at *
  obtain ⟨go, hgo⟩ : ∃ go, w.heap.size + 1 + 1 = go := ⟨_, rfl⟩
  obtain ⟨gr, hgr⟩ : ∃ gr, w.heap.size + 1 = gr := ⟨_, rfl⟩
  obtain ⟨gs, hgs⟩ : ∃ gs, w.heap.size = gs := ⟨_, rfl⟩
  obtain ⟨B, hB⟩ : ∃ B, w.heap.size + 3 = B := ⟨_, rfl⟩
  have HOF2 : Hid (OfF w w0 B gs gr go A l.length c ck nx none 0 0) := Lib.hid (by rw [← hgo, ← hgr, ← hgs, ← hB]; exact HOF.out)
  rw [hgo, hgr, hgs]
  have HG := Lib.hid (show gs < B ∧ gr < B ∧ go < B ∧ w.heap.size ≤ B ∧ gs ≠ go ∧ gr ≠ go ∧ w.heap.size ≤ go ∧ w.heap.size ≤ gr by omega)
  clear hgo hgr hgs hB HOF
  go_wp2
  go_loopw [4] (fun i wr => ∃ (j : Nat) (A1 : Option Addr) (c1 : Nat), i = .int .i64 j ∧ j ≤ l.length ∧ OfF w wr B gs gr go A l.length c ck nx A1 j c1 ∧ wr.ownsRow B 35 5 (.slice A1 j c1) j (txs (l.take j))) (fun i _ => l.length - (intOf i).toNat)
  case atStart => exact ⟨0, none, 0, rfl, by omega, HOF2.out, World.ownsRow_nil _ _ _ _⟩
  case round =>
    obtain ⟨j, A1, c1, rfl, hj, hF, hO⟩ := hrel
    have HO := Lib.hid hO
    have HF := Lib.hid hF
    clear hO hF
    have hs0 := HF.out.s.c0
    have ho0 := HF.out.o.c0
    have hgl : go < wr.heap.size := cell_lt ho0
    have hgl2 : gs < wr.heap.size := cell_lt hs0
    by_cases hlt : j < l.length
    · obtain ⟨ad, rfl, c0, c1', c2, c3, c4⟩ := (HR.out.below HF.out.b).at_ hlt
      have hb0 := cell_lt c0
      rw [add_block] at hb0
      have hst : txs (l.take (j + 1)) = txs (l.take j) ++ txs [l[j]] := by rw [List.take_succ_eq_append_getElem hlt, txs_app]
      have HST := Lib.hid hst
      clear hst
      generalize l[j] = v at *
      have hjl : (j : Int) < (l.length : Int) := by omega
      go_upto_region 5 with fail
      have hbx := (below1 wr (.cells #[.int .i64 v.i, .int .i64 v.s, .int .i64 v.e, .bool v.a, .bool v.o] 35)).drew
      have HO1 := Lib.hid (own_below HO.out hbx)
      have HF1 := Lib.hid (show OfF w (wr.alloc (.cells #[.int .i64 v.i, .int .i64 v.s, .int .i64 v.e, .bool v.a, .bool v.o] 35)).drew B gs gr go _ l.length c ck nx A1 j c1 from ⟨HF.out.s.below hbx, HF.out.r.below hbx, HF.out.o.below hbx, thn HF.out.b hbx, Nat.le_trans HF.out.z hbx.size⟩)
      have HNW : Hid (∀ j u, (txs [v])[j]? = some u → (wr.alloc (.cells #[.int .i64 v.i, .int .i64 v.s, .int .i64 v.e, .bool v.a, .bool v.o] 35)).drew.cell? ((⟨wr.heap.size, 0, none⟩ : Addr).add j) = some u) := Lib.hid (lit_news wr v)
      clear hbx
      go_region_law (refine step_append_own rfl (.tmp 18) (.tmp 24) 26 rfl B 35 i0 (.agg #[.int .i64 0, .int .i64 0, .int .i64 0, .bool false, .bool false]) 5 32 Try.underlying26 hi hz0 hz1 hz2 rfl (by decide) (.slice A1 j c1) j (txs (l.take j)) rfl HO1.out ⟨wr.heap.size, 0, none⟩ 1 1 (txs [v]) rfl rfl HNW.out (txs_one _) (by unfold maxLen; omega) (by omega) HF1.out.z ?_; intro v' w5 hown hg; have hown' : w5.ownsRow B 35 5 v' (j + 1) (txs (l.take (j + 1))) := (by rw [HST.out]; exact hown); obtain ⟨A2, c2, rfl⟩ := own_slice hown'; have HOWN := Lib.hid hown'; have HF5 := Lib.hid (show OfF w w5 B gs gr go _ l.length c ck nx A1 j c1 from ⟨HF1.out.s.growny hg (fun k hk => by have := (HO1.out.lt k hk).1; have := HG.out; omega), HF1.out.r.growny hg (fun k hk => by have := (HO1.out.lt k hk).1; have := HG.out; omega), HF1.out.o.growny hg (fun k hk => by have := (HO1.out.lt k hk).1; have := HG.out; omega), HF1.out.b.grown hg HF1.out.b.size (fun k hk => by have := (HO1.out.lt k hk).1; have := HG.out; omega), Nat.le_trans HF1.out.z hg.size⟩); have g5 := HF5.out.o.c0; have gf5 := HF5.out.o.f0; clear hown hown' hg)
      all_goals
        have hgo : (Value.slice A2 (j + 1) c2).ownBlock ≠ some go := fun e => by have := (HOWN.out.lt _ e).1; have := HG.out; omega
        have HF6 := Lib.hid (show OfF w (w5.setCell ⟨go, 0, none⟩ (.slice A2 (j + 1) c2)) B gs gr go _ l.length c ck nx A2 (j + 1) c2 from ⟨HF5.out.s.other _ _ HG.out.2.2.2.2.1, HF5.out.r.other _ _ HG.out.2.2.2.2.2.1, HF5.out.o.set0 _, HF5.out.b.setCell HG.out.2.2.2.2.2.2.1 _, by simpa using HF5.out.z⟩)
        have HO6 := Lib.hid (own_other HOWN.out ⟨go, 0, none⟩ (.slice A2 (j + 1) c2) hgo)
        clear g5 gf5 HF5 HOWN hgo
        go_wp2
        go_roundw
        case rel => exact ⟨j + 1, A2, c2, by go_num, hlt, HF6.out, HO6.out⟩
        case measure => simp [intOf]; omega
    · obtain rfl : j = l.length := by omega
      have ho := HO.out
      rw [List.take_length] at ho
      have HOW := Lib.hid ho
      clear ho
      have hfar : (Value.slice A1 l.length c1).ownBlock ≠ some gr := fun e => by have := (HOW.out.lt _ e).1; have := HG.out; omega
      have HR5 := Lib.hid (Rd.of_own' (own_other (own_other (own_other HOW.out ⟨gr, 0, none⟩ (.slice A1 l.length c1) hfar) ⟨gr, 1, none⟩ (.int .i64 ck) hfar) ⟨gr, 2, none⟩ (.int .i64 nx) hfar) HR.out.rng)
      obtain ⟨z0, z1, z2, _, _, _⟩ := HF.out.o
      obtain ⟨y0, y1, y2, yf0, yf1, yf2⟩ := HF.out.r
      obtain ⟨q0, q1, q2, _, _, _⟩ := HF.out.r.set3 (.slice A1 l.length c1) (.int .i64 ck) (.int .i64 nx)
      have HBF := Lib.hid (((HF.out.b.setCell (p := ⟨gr, 0, none⟩) HG.out.2.2.2.2.2.2.2 (.slice A1 l.length c1)).setCell (p := ⟨gr, 1, none⟩) HG.out.2.2.2.2.2.2.2 (.int .i64 ck)).setCell (p := ⟨gr, 2, none⟩) HG.out.2.2.2.2.2.2.2 (.int .i64 nx))
      go_wp2
      exact bodyPost_ret (v := .agg #[.slice A1 l.length c1, .int .i64 ck, .int .i64 nx]) (by simp [results, Try.results9, go_sem, q0, q1, q2]) rfl ⟨A1, l.length, c1, rfl, HR5.out, HBF.out⟩
end Go.Proofs.Ytlcmpngjmmbkcaa
