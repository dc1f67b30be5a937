/- What the law's Of makes of any state: the walk. Conditions: a state that is read in memory, within reach. -/
import Derived.Test.YtmjcmeebcochgaaVn
import Derived.Laws.AppendOwn
import Derived.OwnWalk
namespace Go.Proofs.Ytmjcmeebcochgaa
open Go.RowKit Go.Sort Go.Maps
set_option linter.unusedSimpArgs false
set_option linter.unusedVariables false

theorem num_any (k : Int) (w : World) :
    Calls Try.prog 21 #[.int .i64 k] w fun e w' => e = .returned (.int .i64 k) ∧ w = w' := by
  go_enter Try.func21, Try.ntmps21
  go_wp2
  go_ret
  exact ⟨rfl, rfl⟩
theorem step_append_own {P : Program} {ops : Array Oper} {o : Oper} {a : Act} {w : World} {K : Act → World → Prop} {Q : Exit → Act → World → Prop} {E : Prop} (hgd : o.guard = none) (s x : Operand) (t : TypeId)
    (ho : o.op = .call { callee := .builtin .append, args := #[s, x], argTypes := #[t, t] })
    (base : Nat) (e : TypeId) (i : TypeInfo) (z : Value) (size bytes : Nat) (ht : P.underlying t = some (.slice e)) (hi : P.info? e = some i) (hz : i.zero = some z)
    (hsize : i.size = size) (hby : i.bytes = bytes) (hzs : z.cells.size = size) (hsz : 0 < size)
    (v : Value) (n : Nat) (xs : List Value) (hs : a.eval s = v) (hown : w.ownsRow base e size v n xs)
    (ad : Addr) (m c : Nat) (news : List Value) (hx : a.eval x = .slice (some ad) m c) (hl : news.length = m * size) (hnews : ∀ j u, news[j]? = some u → w.cell? (ad.add j) = some u) (h1 : ∀ u ∈ news, u.oneCell' = true)
    (h63 : n + m ≤ maxLen) (hbytes : (n + m) * bytes ≤ 140737488355328) (hbase : base ≤ w.heap.size)
    (h : ∀ v' w', w'.ownsRow base e size v' (n + m) (xs ++ news) → w.grownBy w' v.ownBlock → K (a.put o.dst v') w') :
    if Region.wanted o (yielded ops a.tmps) = true then Oper.wp P o a w K Q else E := by
  have hw : Region.wanted o (yielded ops a.tmps) = true := by simp [Region.wanted, hgd]
  rw [if_pos hw]
  exact wp_append_own w s x t ho base e i z size bytes ht hi hz hsize hby hzs hsz v n xs hs hown ad m c news hx hl hnews h1 h63 hbytes hbase fun v' w' a1 a2 _ => h v' w' a1 a2
/-- A state. -/
def StX (l : List Lk) (w : World) (e : Ending) (w' : World) : Prop := ∃ A n c, e = .returned (.agg #[.slice A n c]) ∧ Rd w' A n c l ∧ Below w.heap.size w w'
/-- What Of has laid: the page's state, the answer, the state that is filled. -/
structure OfF (w W : World) (B gs gr go : Nat) (A : Option Addr) (n c : Nat) (u : Value) : Prop where
  s : W.cell? ⟨gs, 0, none⟩ = some (.slice A n c)
  r : W.cell? ⟨gr, 0, none⟩ = some (.slice none 0 0)
  f : W.frozen? ⟨gr, 0, none⟩ = false
  o : W.cell? ⟨go, 0, none⟩ = some u
  of : W.frozen? ⟨go, 0, none⟩ = false
  b : Below w.heap.size w W
  z : B ≤ W.heap.size
theorem OfF.below {w W W' : World} {B gs gr go : Nat} {A : Option Addr} {n c : Nat} {u : Value} (h : OfF w W B gs gr go A n c u) (hb : Below W.heap.size W W') : OfF w W' B gs gr go A n c u :=
  ⟨cell_keep h.s hb, cell_keep h.r hb, (hb.frozen (p := ⟨gr, 0, none⟩) (cell_lt h.r)).trans h.f, cell_keep h.o hb, (hb.frozen (p := ⟨go, 0, none⟩) (cell_lt h.o)).trans h.of, thn h.b hb, Nat.le_trans h.z hb.size⟩
theorem OfF.grown {w W W' : World} {B gs gr go : Nat} {A : Option Addr} {n c : Nat} {u v : Value} (h : OfF w W B gs gr go A n c u) (hg : W.grownBy W' v.ownBlock) (hv : ∀ k, v.ownBlock = some k → B ≤ k) (h1 : gs < B) (h2 : gr < B) (h3 : go < B) (hw : w.heap.size ≤ B) : OfF w W' B gs gr go A n c u := by
  have hb : Below B W W' := (Below.refl _ _).grown hg h.z hv
  exact ⟨(hb.cell (p := ⟨gs, 0, none⟩) h1).trans h.s, (hb.cell (p := ⟨gr, 0, none⟩) h2).trans h.r, (hb.frozen (p := ⟨gr, 0, none⟩) h2).trans h.f, (hb.cell (p := ⟨go, 0, none⟩) h3).trans h.o, (hb.frozen (p := ⟨go, 0, none⟩) h3).trans h.of, h.b.trans (hb.mono hw), Nat.le_trans h.z hg.size⟩
theorem OfF.set {w W : World} {B gs gr go : Nat} {A : Option Addr} {n c : Nat} {u : Value} (h : OfF w W B gs gr go A n c u) (v : Value) (h1 : gs ≠ go) (h2 : gr ≠ go) (h3 : w.heap.size ≤ go) : OfF w (W.setCell ⟨go, 0, none⟩ v) B gs gr go A n c v :=
  ⟨(World.cell?_setCell_other W ⟨go, 0, none⟩ _ v (by simp <;> omega)).trans h.s, (World.cell?_setCell_other W ⟨go, 0, none⟩ _ v (by simp <;> omega)).trans h.r, by rw [World.frozen?_setCell]; exact h.f, set_same v h.o, by rw [World.frozen?_setCell]; exact h.of, h.b.setCell (p := ⟨go, 0, none⟩) h3 v, by have := h.z; simpa using this⟩
set_option maxRecDepth 100000 in
set_option maxHeartbeats 8000000 in
theorem of_any (A : Option Addr) (n c : Nat) (l : List Lk) (w : World) (hr : Rd w A n c l) (hn : n * 40 ≤ 140737488355328) :
    Calls Try.prog 9 #[.agg #[.slice A n c]] w (StX l w) := by
  obtain ⟨i0, hi, hz0, hz1, hz2⟩ := info_parts Try.infoV
  have hl := hr.len
  have hcap := hr.cap
  subst hl
  have HR := Lib.hid hr
  clear hr
  have b1 := below1 w (.cells #[.slice A l.length c] 24)
  have b2 := below1 (w.alloc (.cells #[.slice A l.length c] 24)) (.cells #[.slice none 0 0] 29)
  have b3 := below1 ((w.alloc (.cells #[.slice A l.length c] 24)).alloc (.cells #[.slice none 0 0] 29)) (.cells #[.slice none 0 0] 29)
  have e1 : (w.alloc (.cells #[.slice A l.length c] 24)).heap.size = w.heap.size + 1 := by simp
  have e2 : ((w.alloc (.cells #[.slice A l.length c] 24)).alloc (.cells #[.slice none 0 0] 29)).heap.size = w.heap.size + 2 := by simp
  have e3 : (((w.alloc (.cells #[.slice A l.length c] 24)).alloc (.cells #[.slice none 0 0] 29)).alloc (.cells #[.slice none 0 0] 29)).heap.size = w.heap.size + 3 := by simp
  have hof : OfF w (((w.alloc (.cells #[.slice A l.length c] 24)).alloc (.cells #[.slice none 0 0] 29)).alloc (.cells #[.slice none 0 0] 29)) (w.heap.size + 3) w.heap.size (w.heap.size + 1) (w.heap.size + 2) A l.length c (.slice none 0 0) :=
    ⟨cell_keep (cell_keep (cell_last w _ _ _ 0 rfl) b2) b3, cell_keep (cell_last _ _ _ _ 0 e1.symm) b3, (b3.frozen (p := ⟨w.heap.size + 1, 0, none⟩) (by rw [e2]; simp)).trans (World.frozen?_alloc_at _ _ _ 0 e1.symm), cell_last _ _ _ _ 0 e2.symm, World.frozen?_alloc_at _ _ _ 0 e2.symm, thn (thn b1 b2) b3, by omega⟩
  have HOF := Lib.hid hof
  clear b1 b2 b3 e1 e2 e3 hof
  go_enter Try.func9, Try.ntmps9
  go_upto_region 2 with fail
  generalize ((w.alloc (.cells #[.slice A l.length c] 24)).alloc (.cells #[.slice none 0 0] 29)).alloc (.cells #[.slice none 0 0] 29) = w0 at *
  obtain ⟨go, hgo⟩ : ∃ go, w.heap.size + 2 = go := ⟨_, rfl⟩
  obtain ⟨gr, hgr⟩ : ∃ gr, w.heap.size + 1 = gr := ⟨_, rfl⟩
  obtain ⟨gs, hgs⟩ : ∃ gs, w.heap.size = gs := ⟨_, rfl⟩
  obtain ⟨B, hB⟩ : ∃ B, w.heap.size + 3 = B := ⟨_, rfl⟩
  have HOF2 : Hid (OfF w w0 B gs gr go A l.length c (.slice none 0 0)) := Lib.hid (by rw [← hgo, ← hgr, ← hgs, ← hB]; exact HOF.out)
  rw [hgo, hgr, hgs]
  have HG := Lib.hid (show gs < B ∧ gr < B ∧ go < B ∧ w.heap.size ≤ B ∧ gs ≠ go ∧ gr ≠ go ∧ w.heap.size ≤ go ∧ w.heap.size ≤ gr by omega)
  clear hgo hgr hgs hB HOF
  go_wp2
  go_loopw [4] (fun i wr => ∃ (j : Nat) (A1 : Option Addr) (c1 : Nat), i = .int .i64 j ∧ j ≤ l.length ∧ OfF w wr B gs gr go A l.length c (.slice A1 j c1) ∧ wr.ownsRow B 34 3 (.slice A1 j c1) j (lks (l.take j))) (fun i _ => l.length - (intOf i).toNat)
  case atStart => exact ⟨0, none, 0, rfl, by omega, HOF2.out, World.ownsRow_nil _ _ _ _⟩
  case round =>
    obtain ⟨j, A1, c1, rfl, hj, hF, hO⟩ := hrel
    have HO := Lib.hid hO
    have HF := Lib.hid hF
    clear hO hF
    have hs0 := HF.out.s
    have ho0 := HF.out.o
    have hgl : go < wr.heap.size := cell_lt ho0
    have hgl2 : gs < wr.heap.size := cell_lt hs0
    by_cases hlt : j < l.length
    · obtain ⟨ad, rfl, c0, c1', c2⟩ := (HR.out.below HF.out.b).at_ hlt
      have hb0 := cell_lt c0
      rw [add_block] at hb0
      have hst : lks (l.take (j + 1)) = lks (l.take j) ++ lks [l[j]] := by rw [List.take_succ_eq_append_getElem hlt, lks_app]
      have HST := Lib.hid hst
      clear hst
      generalize l[j] = v at *
      have hjl : (j : Int) < (l.length : Int) := by omega
      go_upto_region 5 with fail
      have hbx := (below1 wr (.cells #[.int .i64 v.t, .string v.lo.s, .string v.hi.s] 34)).drew
      have HO1 := Lib.hid (own_below HO.out hbx)
      have HF1 := Lib.hid (HF.out.below hbx)
      have HNW : Hid (∀ j u, (lks [v])[j]? = some u → (wr.alloc (.cells #[.int .i64 v.t, .string v.lo.s, .string v.hi.s] 34)).drew.cell? ((⟨wr.heap.size, 0, none⟩ : Addr).add j) = some u) := Lib.hid (lit_news wr v)
      clear hbx
      go_region_law (refine step_append_own rfl (.tmp 13) (.tmp 19) 27 rfl B 34 i0 (.agg #[.int .i64 0, .string ⟨#[]⟩, .string ⟨#[]⟩]) 3 40 Try.underlying27 hi hz0 hz1 hz2 rfl (by decide) (.slice A1 j c1) j (lks (l.take j)) rfl HO1.out ⟨wr.heap.size, 0, none⟩ 1 1 (lks [v]) rfl rfl HNW.out (lks_one _) (by unfold maxLen; omega) (by omega) HF1.out.z ?_; intro v' w5 hown hg; have hown' : w5.ownsRow B 34 3 v' (j + 1) (lks (l.take (j + 1))) := (by rw [HST.out]; exact hown); have hl5 : (l.take (j + 1)).length = j + 1 := (by simp; omega); obtain ⟨A2, c2, rfl, _⟩ := Rd.of_own hown'; have HOWN := Lib.hid hown'; have HF5 := Lib.hid (HF1.out.grown hg (fun k hk => (HO1.out.lt k hk).1) HG.out.1 HG.out.2.1 HG.out.2.2.1 HG.out.2.2.2.1); have g5 := HF5.out.o; have gf5 := HF5.out.of; clear hown hown' hg hl5)
      all_goals
        have HF6 := Lib.hid (HF5.out.set (.slice A2 (j + 1) c2) HG.out.2.2.2.2.1 HG.out.2.2.2.2.2.1 HG.out.2.2.2.2.2.2.1)
        have HO6 := Lib.hid (own_set HOWN.out HG.out.2.2.1 0 (.slice A2 (j + 1) c2))
        clear g5 gf5 HF5 HOWN
        go_wp2
        go_roundw
        case rel => exact ⟨j + 1, A2, c2, by go_num, hlt, HF6.out, HO6.out⟩
        case measure => simp [intOf]; omega
    · obtain rfl : j = l.length := by omega
      have ho := HO.out
      rw [List.take_length] at ho
      obtain ⟨A5, c5, e5, h5⟩ := Rd.of_own ho
      injection e5 with e1 _ e2
      subst e1 e2
      have HR5 := Lib.hid h5
      clear ho h5
      have hr1 := HF.out.r
      have hf1 := HF.out.f
      have r0 := set_same (.slice A1 l.length c1) hr1
      go_wp2
      exact bodyPost_ret (v := .agg #[.slice A1 l.length c1]) (by simp [results, Try.results9, go_sem, r0]) rfl ⟨A1, l.length, c1, rfl, HR5.out.slot hr1 _, HF.out.b.setCell (p := ⟨gr, 0, none⟩) HG.out.2.2.2.2.2.2.2 _⟩
end Go.Proofs.Ytmjcmeebcochgaa
