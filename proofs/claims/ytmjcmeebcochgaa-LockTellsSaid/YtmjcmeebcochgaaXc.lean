/- The reference's Own and put: the walks. Conditions: lists that are read in memory. -/
import Derived.Test.YtmjcmeebcochgaaXb
import Derived.Test.YtmjcmeebcochgaaVp
import Derived.Laws.AppendOwnNone
namespace Go.Proofs.Ytmjcmeebcochgaa
open Go.RowKit Go.Sort Go.Maps
set_option linter.unusedSimpArgs false
set_option linter.unusedVariables false

theorem run_from {t : TypeId} (ht : Try.prog.underlying t = some (.slice (Try.prog.elem t))) (he : ∀ w, (sizeOf (Try.prog.elem t)).run Try.prog w = .ok 3 w) (A : Option Addr) (n c k : Nat) (hk : k ≤ n) (w : World) :
    (Instr.slice t (.slice A n c) (some (.int .i64 (k : Int))) none none).run Try.prog w = .ok (.slice (cutA A c k) (n - k) (c - k)) w := by
  rw [run_slice_l w t A n c ht .i64 (k : Int) (by omega) (by omega), he]
  simp [Result.andThen, sliced, cutA]
theorem run_to {t : TypeId} (ht : Try.prog.underlying t = some (.slice (Try.prog.elem t))) (he : ∀ w, (sizeOf (Try.prog.elem t)).run Try.prog w = .ok 3 w) (A : Option Addr) (n c k : Nat) (hk : k ≤ c) (w : World) :
    (Instr.slice t (.slice A n c) none (some (.int .i64 (k : Int))) none).run Try.prog w = .ok (.slice A k c) w := by
  rw [run_slice_h w t A n c ht .i64 (k : Int) (by omega) (by omega), he]
  cases A <;> simp [Result.andThen, sliced, add_zero]
theorem fromR (A : Option Addr) (n c k : Nat) (hk : k ≤ n) (w : World) : (Instr.slice 22 (.slice A n c) (some (.int .i64 (k : Int))) none none).run Try.prog w = .ok (.slice (cutA A c k) (n - k) (c - k)) w :=
  run_from (by rw [elemR]; exact Try.underlying22) (fun w => by rw [elemR]; exact size_of Try.infoR w) A n c k hk w
theorem toR (A : Option Addr) (n c k : Nat) (hk : k ≤ c) (w : World) : (Instr.slice 22 (.slice A n c) none (some (.int .i64 (k : Int))) none).run Try.prog w = .ok (.slice A k c) w :=
  run_to (by rw [elemR]; exact Try.underlying22) (fun w => by rw [elemR]; exact size_of Try.infoR w) A n c k hk w
/-- append of a list that is read, nil or not, onto one of the call's own. -/
theorem run_appendR {P : Program} (w : World) (base : Nat) (t ty e : TypeId) (i : TypeInfo) (z : Value) (bytes : Nat) (ht : P.underlying t = some (.slice e)) (hi : P.info? e = some i) (hz : i.zero = some z) (hsize : i.size = 3) (hby : i.bytes = bytes) (hzs : z.cells.size = 3)
    (v : Value) (n : Nat) (xs : List Value) (hown : w.ownsRow base e 3 v n xs) (A : Option Addr) (m c : Nat) (l : List Lk) (hr : Rd w A m c l)
    (h63 : n + m ≤ maxLen) (hbytes : (n + m) * bytes ≤ 140737488355328) (hbase : base ≤ w.heap.size) :
    ∃ v' w', (Builtin.append_ #[t, t] ty #[v, .slice A m c]).run P w = .ok v' w' ∧ w'.ownsRow base e 3 v' (n + m) (xs ++ lks l) ∧ w.grownBy w' v.ownBlock ∧ (v'.ownBlock = v.ownBlock ∨ v'.ownBlock = some w.heap.size) := by
  cases A with
  | none =>
    obtain ⟨rfl, rfl⟩ := hr.nil rfl
    have hn : l = [] := List.eq_nil_of_length_eq_zero hr.len
    subst hn
    refine ⟨v, w, ?_, by simpa [lks] using hown, ⟨rfl, rfl, rfl, Nat.le_refl _, fun _ _ _ => rfl⟩, .inl rfl⟩
    rcases hown.2 with ⟨rfl, rfl⟩ | ⟨g, cap, cur, rfl, _, _, hnc, _⟩
    · simp [Builtin.append_, run_underlying ht, sizeOf, typeInfo, hi, Builtin.lenOf, Builtin.firstCells]
    · simp [Builtin.append_, run_underlying ht, sizeOf, typeInfo, hi, Builtin.lenOf, Builtin.firstCells, hnc, storeCells]
  | some ad =>
    obtain ⟨v', w', hrun, h2, h3, _, h5⟩ := run_append_own_at (P := P) w base t ty e i z 3 bytes ht hi hz hsize hby hzs (by decide) v n xs hown ad m c (lks l) (by rw [lks_len, hr.len]) hr.news (lks_one l) h63 hbytes hbase
    exact ⟨v', w', hrun, h2, h3, h5⟩
theorem wpList_appendR {P : Program} {w : World} {ops : Array Oper} {rest : List Oper} {o : Oper} {a : Act} {Q : Exit → Act → World → Prop} (hgd : o.guard = none) (s x : Operand) (t : TypeId)
    (ho : o.op = .call { callee := .builtin .append, args := #[s, x], argTypes := #[t, t] })
    (base : Nat) (e : TypeId) (i : TypeInfo) (z : Value) (bytes : Nat) (ht : P.underlying t = some (.slice e)) (hi : P.info? e = some i) (hz : i.zero = some z) (hsize : i.size = 3) (hby : i.bytes = bytes) (hzs : z.cells.size = 3)
    (v : Value) (n : Nat) (xs : List Value) (hs : a.eval s = v) (hown : w.ownsRow base e 3 v n xs) (A : Option Addr) (m c : Nat) (l : List Lk) (hx : a.eval x = .slice A m c) (hr : Rd w A m c l)
    (h63 : n + m ≤ maxLen) (hbytes : (n + m) * bytes ≤ 140737488355328) (hbase : base ≤ w.heap.size)
    (h : ∀ v' w', w'.ownsRow base e 3 v' (n + m) (xs ++ lks l) → w.grownBy w' v.ownBlock → (v'.ownBlock = v.ownBlock ∨ v'.ownBlock = some w.heap.size) → wpList P ops Q rest (a.put o.dst v') w') : wpList P ops Q (o :: rest) a w := by
  obtain ⟨v', w', hrun, h2, h3, h4⟩ := run_appendR (P := P) w base t o.type e i z bytes ht hi hz hsize hby hzs v n xs hown A m c l hr h63 hbytes hbase
  exact Lib.wpList_append_run w hgd s x t t ho v (.slice A m c) hs hx v' w' hrun (h v' w' h2 h3 h4)
set_option maxHeartbeats 4000000 in
theorem rOwn_any (A : Option Addr) (n c : Nat) (l : List Lk) (w : World) (hr : Rd w A n c l) (hn : n ≤ 1000000) :
    Calls Try.prog 34 #[.agg #[.slice A n c]] w (StX l w) := by
  obtain ⟨i0, hi, hz0, hz1, hz2⟩ := info_parts Try.infoR
  have HB0 := Lib.hid (below2 w (.cells #[.slice A n c] 24) (.cells #[.slice none 0 0] 24))
  have e1 : (w.alloc (.cells #[.slice A n c] 24)).heap.size = w.heap.size + 1 := by simp
  have hr0 := cell_last (w.alloc (.cells #[.slice A n c] 24)) #[.slice none 0 0] 24 (w.heap.size + 1) 0 e1.symm
  have hf0 := World.frozen?_alloc_at (w := w.alloc (.cells #[.slice A n c] 24)) #[.slice none 0 0] 24 (w.heap.size + 1) 0 e1.symm
  have hs0 := cell_keep (cell_last w #[.slice A n c] 24 w.heap.size 0 rfl) (below1 (w.alloc (.cells #[.slice A n c] 24)) (.cells #[.slice none 0 0] 24))
  have HR0 := Lib.hid (hr.below (below2 w (.cells #[.slice A n c] 24) (.cells #[.slice none 0 0] 24)))
  have hz3 : ((w.alloc (.cells #[.slice A n c] 24)).alloc (.cells #[.slice none 0 0] 24)).heap.size = w.heap.size + 2 := by simp
  clear hr
  go_enter Try.func34, Try.ntmps34
  go_upto_region 1 with fail
  generalize (w.alloc (.cells #[.slice A n c] 24)).alloc (.cells #[.slice none 0 0] 24) = W0 at *
  have hs0' : W0.cell? ⟨w.heap.size, 0, none⟩ = some (.slice A n c) := hs0
  have hr0' : W0.cell? ⟨w.heap.size + 1, 0, none⟩ = some (.slice none 0 0) := hr0
  have HRC := Lib.hid hr0'
  have HFC := Lib.hid hf0
  have HZ := Lib.hid hz3
  clear hs0 hr0 hr0' hf0 hz3
  go_wp2_with (at_builtin; refine wpList_appendR rfl _ _ 22 rfl W0.heap.size 26 i0 (.agg #[.int .i64 0, .string ⟨#[]⟩, .string ⟨#[]⟩]) 40 Try.underlying22 hi hz0 hz1 hz2 rfl _ 0 [] rfl (World.ownsRow_nil _ _ _ _) A n c l rfl HR0.out (by unfold maxLen; omega) (by omega) (Nat.le_refl _) ?_; intro v6 w6 hown6 hg6 _; obtain ⟨A6, c6, rfl, hr6⟩ := Rd.of_own (l := l) hown6; have hb6 : Below W0.heap.size W0 w6 := (Below.refl _ _).grown hg6 (Nat.le_refl _) (fun k hk => by cases hk); have HB6 := Lib.hid (thn HB0.out hb6); have hr1 := cell_keep HRC.out hb6; have hf1 := (hb6.frozen (p := ⟨w.heap.size + 1, 0, none⟩) (cell_lt HRC.out)).trans HFC.out; have r0 := set_same (.slice A6 n c6) hr1; rw [Nat.zero_add] at hr6; have HR6 := Lib.hid hr6; clear hown6 hg6 hr6 hb6)
  exact bodyPost_ret (v := .agg #[.slice A6 n c6]) (by simp [results, Try.results34, go_sem, r0]) rfl ⟨A6, n, c6, rfl, HR6.out.slot hr1 _, HB6.out.setCell (p := ⟨w.heap.size + 1, 0, none⟩) (by simp) _⟩
theorem pos_is {l : List Lk} {x : Lk} {j : Nat} (hj : j ≤ l.length) (h1 : ∀ k (h : k < l.length), k < j → ltL l[k] x) (h2 : ∀ h : j < l.length, ¬ ltL l[j] x) : pos l x = j := by
  rcases Nat.lt_trichotomy (pos l x) j with h | h | h
  · exact absurd (h1 _ (by omega) h) (pos_stop (by omega))
  · exact h
  · exact absurd (pos_below h) (h2 (Nat.lt_of_lt_of_le h (pos_le l x)))
/-- A list that is answered. -/
def LstX (m : List Lk) (w : World) (e : Ending) (w' : World) : Prop := ∃ A n c, e = .returned (.slice A n c) ∧ Rd w' A n c m ∧ Below w.heap.size w w'
set_option maxRecDepth 100000 in
set_option maxHeartbeats 8000000 in
theorem put_any (x : Lk) (A : Option Addr) (n c : Nat) (l : List Lk) (w : World) (hr : Rd w A n c l) (hn : n ≤ 1000) :
    Calls Try.prog 37 #[.slice A n c, .agg #[.int .i64 x.t, .string x.lo.s, .string x.hi.s]] w (LstX (ins l x) w) := by
  obtain ⟨i0, hi, hz0, hz1, hz2⟩ := info_parts Try.infoR
  have hl := hr.len
  have hcap := hr.cap
  have hle := hr.le
  subst hl
  have hb0 := below1 w (.cells #[.int .i64 x.t, .string x.lo.s, .string x.hi.s] 26)
  have hx0 : Cell3 (w.alloc (.cells #[.int .i64 x.t, .string x.lo.s, .string x.hi.s] 26)) ⟨w.heap.size, 0, none⟩ x := ⟨cell_last w _ _ _ 0 rfl, cell_last w _ _ _ 1 rfl, cell_last w _ _ _ 2 rfl⟩
  have HB0 := Lib.hid hb0
  have HX0 := Lib.hid hx0
  have HR := Lib.hid hr
  clear hb0 hx0 hr
  go_enter Try.func37, Try.ntmps37
  go_upto_region 1 with fail
  generalize w.alloc (.cells #[.int .i64 x.t, .string x.lo.s, .string x.hi.s] 26) = W0 at *
  generalize hgx : w.heap.size = gx at HX0 ⊢
  have HGX := Lib.hid hgx
  clear hgx
  go_wp2
  go_loopw [5] (fun i wr => ∃ j : Nat, i = .int .i64 j ∧ j ≤ l.length ∧ (∀ k (h : k < l.length), k < j → ltL l[k] x) ∧ Below W0.heap.size W0 wr) (fun i _ => l.length - (intOf i).toNat)
  case atStart => exact ⟨0, rfl, by omega, fun k h h0 => by omega, Below.refl _ _⟩
  case round =>
    obtain ⟨j, rfl, hj, hno, hB⟩ := hrel
    have HNO := Lib.hid hno
    have HBO := Lib.hid hB
    have HB := Lib.hid (thn HB0.out hB)
    obtain ⟨x0, x1, x2⟩ := HX0.out.below hB
    have hqx := cell_lt x0
    clear hno hB
    have hxc0 : wr.cell? ⟨gx, 0, none⟩ = some (.int .i64 x.t) := x0
    have hxc1 : wr.cell? ⟨gx, 1, none⟩ = some (.string x.lo.s) := by simpa using x1
    have hxc2 : wr.cell? ⟨gx, 2, none⟩ = some (.string x.hi.s) := by simpa using x2
    clear x0 x1 x2
    have hend : (∀ h : j < l.length, ¬ ltL l[j] x) → pos l x = j := fun h => pos_is hj HNO.out h
    have HEND := Lib.hid hend
    clear hend
    by_cases hlt : j < l.length
    · obtain ⟨ad, rfl, k0, k1, k2⟩ := (HR.out.below HB.out).at_ hlt
      have hq0 := cell_lt k0
      rw [add_block] at hq0
      have HF := Lib.hid fun W => before_any l[j] x W
      have hR : ∃ R, decide (ltL l[j] x) = R := ⟨_, rfl⟩
      obtain ⟨R, hR⟩ := hR
      rw [hR] at HF
      have HRR := Lib.hid hR
      clear hR
      have hlt' : (j : Int) < (l.length : Int) := by omega
      have hd1 : decide ((j : Int) < (l.length : Int)) = true := decide_eq_true hlt'
      have hd2 : decide (j < l.length) = true := decide_eq_true hlt
      go_upto_region 2 with fail
      have q0 := cell_regrown k0
      have q1 := cell_regrown k1
      have q2 := cell_regrown k2
      have r0 := cell_regrown hxc0
      have r1 := cell_regrown hxc1
      have r2 := cell_regrown hxc2
      clear k0 k1 k2
      cases R
      · refine wp_region_quiet_below (by kernel_rfl) (by kernel_rfl) ?_
        repeat (go_big_quiet_step (with_reducible exact Calls.regrown_of (HF.out _)))
        refine wpQuiet_nil ?_
        intro w5 hw5
        obtain ⟨pp, rfl⟩ := hw5
        have HB5 := Lib.hid (thn HB.out (below_regrown wr pp.d pp.os))
        have hy0 := r0 pp.d pp.os
        have hy1 := r1 pp.d pp.os
        have hy2 := r2 pp.d pp.os
        clear q0 q1 q2 r0 r1 r2 hxc0 hxc1 hxc2
        generalize grow (redrawn wr pp.d) pp.os = W5 at *
        have HP := Lib.hid (HEND.out fun h => of_decide_eq_false HRR.out)
        have hto := fun w => toR (some ad) l.length c j (by omega) w
        have hfr := fun w => fromR (some ad) l.length c j (by omega) w
        have HRT := Lib.hid fun W (hb : Below w.heap.size w W) => (HR.out.below hb).take (k := j) (by omega)
        have HRD := Lib.hid fun W (hb : Below w.heap.size w W) => (HR.out.below hb).drop (k := j) (by omega)
        have HINS : Hid (ins l x = l.take j ++ x :: l.drop j) := Lib.hid (by unfold ins; rw [HP.out])
        have HN5 := Lib.hid hn
        go_upto_region 6 with (at_builtin; refine wpList_appendR rfl _ _ 22 rfl W5.heap.size 26 i0 (.agg #[.int .i64 0, .string ⟨#[]⟩, .string ⟨#[]⟩]) 40 Try.underlying22 hi hz0 hz1 hz2 rfl _ 0 [] rfl (World.ownsRow_nil _ _ _ _) (some ad) j c (l.take j) rfl (HRT.out _ HB5.out) (by unfold maxLen; omega) (by omega) (Nat.le_refl _) ?_; intro v6 w6 hown6 hg6 _; have hb6 : Below W5.heap.size W5 w6 := (Below.refl _ _).grown hg6 (Nat.le_refl _) (fun k hk => by cases hk); have HO6 := Lib.hid hown6; have HB6 := Lib.hid (thn HB5.out hb6); have HZ6 := Lib.hid hb6.size; have hw0 := cell_keep hy0 hb6; have hw1 := cell_keep hy1 hb6; have hw2 := cell_keep hy2 hb6; clear hown6 hg6 hb6 hy0 hy1 hy2)
        have HB7 := Lib.hid (thn HB6.out (below1 w6 (.cells #[.int .i64 x.t, .string x.lo.s, .string x.hi.s] 26)))
        have HO7 := Lib.hid (own_below HO6.out (below1 w6 (.cells #[.int .i64 x.t, .string x.lo.s, .string x.hi.s] 26)))
        have HNW : Hid (∀ j u, (lks [x])[j]? = some u → (w6.alloc (.cells #[.int .i64 x.t, .string x.lo.s, .string x.hi.s] 26)).cell? ((⟨w6.heap.size, 0, none⟩ : Addr).add j) = some u) := Lib.hid (fun j u hu => by
          rw [add_lit, Nat.zero_add, cell_last _ _ _ _ _ rfl, ← hu]
          simp [lks, lkC])
        have HZ7 := Lib.hid (show W5.heap.size ≤ (w6.alloc (.cells #[.int .i64 x.t, .string x.lo.s, .string x.hi.s] 26)).heap.size by have := HZ6.out; simp; omega)
        go_upto_region 7 with (at_builtin; refine wpList_append_own_at _ rfl _ _ 22 rfl W5.heap.size 26 i0 (.agg #[.int .i64 0, .string ⟨#[]⟩, .string ⟨#[]⟩]) 3 40 Try.underlying22 hi hz0 hz1 hz2 rfl (by decide) v6 (0 + j) _ rfl HO7.out ⟨w6.heap.size, 0, none⟩ 1 1 (lks [x]) rfl rfl HNW.out (lks_one _) (by unfold maxLen; omega) (by omega) HZ7.out ?_; intro v8 w8 hown8 hg8 _ _; have HO8 := Lib.hid hown8; have HB8 := Lib.hid (HB7.out.grown hg8 HB7.out.size (fun k hk => Nat.le_trans HB5.out.size (HO7.out.lt k hk).1)); have HZ8 := Lib.hid (Nat.le_trans HZ7.out hg8.size); clear hown8 hg8)
        go_wp2_with (at_builtin; refine wpList_appendR rfl _ _ 22 rfl W5.heap.size 26 i0 (.agg #[.int .i64 0, .string ⟨#[]⟩, .string ⟨#[]⟩]) 40 Try.underlying22 hi hz0 hz1 hz2 rfl v8 (0 + j + 1) _ rfl HO8.out (cutA ((some ad)) c j) (l.length - j) (c - j) (l.drop j) rfl (HRD.out _ HB8.out) (by unfold maxLen; omega) (by omega) HZ8.out ?_; intro v9 w9 hown9 hg9 _; have hown9' : w9.ownsRow W5.heap.size 26 3 v9 (l.length + 1) (lks (ins l x)) := (by rw [HINS.out, lks_app]; have e1 : 0 + j + 1 + (l.length - j) = l.length + 1 := (by omega); rw [e1] at hown9; simpa [lks] using hown9); obtain ⟨A9, c9, rfl, hr9⟩ := Rd.of_own hown9'; have HR9 := Lib.hid hr9; have HB9 := Lib.hid (HB8.out.grown hg9 HB8.out.size (fun k hk => Nat.le_trans HB5.out.size (HO8.out.lt k hk).1)); clear hown9 hown9' hg9 hr9)
        go_ret
        exact ⟨A9, _, c9, rfl, HR9.out, HB9.out⟩
      · refine wp_region_quiet_below (by kernel_rfl) (by kernel_rfl) ?_
        repeat (go_big_quiet_step (with_reducible exact Calls.regrown_of (HF.out _)))
        refine wpQuiet_nil ?_
        intro w5 hw5
        obtain ⟨pp, rfl⟩ := hw5
        have HBO5 := Lib.hid (thn HBO.out (below_regrown wr pp.d pp.os))
        clear q0 q1 q2 r0 r1 r2 hxc0 hxc1 hxc2
        generalize grow (redrawn wr pp.d) pp.os = W5 at HBO5 ⊢
        go_wp2
        go_roundw
        case rel => exact ⟨j + 1, by go_num, hlt, fun k h h0 => by
          rcases Nat.lt_or_ge k j with h1 | h1
          · exact HNO.out k h h1
          · have e : k = j := by omega
            subst e
            exact of_decide_eq_true HRR.out, HBO5.out⟩
        case measure => simp [intOf]; omega
    · have hjl : j = l.length := by omega
      have hd1 : decide ((j : Int) < (l.length : Int)) = false := by simp; omega
      have hd2 : decide (j < l.length) = false := decide_eq_false hlt
      go_upto_region 2 with fail
      have r0 := cell_regrown hxc0
      have r1 := cell_regrown hxc1
      have r2 := cell_regrown hxc2
      · refine wp_region_quiet_below (by kernel_rfl) (by kernel_rfl) ?_
        repeat (go_big_quiet_step (fail))
        refine wpQuiet_nil ?_
        intro w5 hw5
        obtain ⟨pp, rfl⟩ := hw5
        have HB5 := Lib.hid (thn HB.out (below_regrown wr pp.d pp.os))
        have hy0 := r0 pp.d pp.os
        have hy1 := r1 pp.d pp.os
        have hy2 := r2 pp.d pp.os
        clear r0 r1 r2 hxc0 hxc1 hxc2
        generalize grow (redrawn wr pp.d) pp.os = W5 at *
        have HP := Lib.hid (HEND.out fun h => absurd h hlt)
        have hto := fun w => toR A l.length c j (by omega) w
        have hfr := fun w => fromR A l.length c j (by omega) w
        have HRT := Lib.hid fun W (hb : Below w.heap.size w W) => (HR.out.below hb).take (k := j) (by omega)
        have HRD := Lib.hid fun W (hb : Below w.heap.size w W) => (HR.out.below hb).drop (k := j) (by omega)
        have HJL := Lib.hid hjl
        clear hjl
        have HINS : Hid (ins l x = l.take j ++ x :: l.drop j) := Lib.hid (by unfold ins; rw [HP.out])
        have HN5 := Lib.hid hn
        go_upto_region 6 with (at_builtin; refine wpList_appendR rfl _ _ 22 rfl W5.heap.size 26 i0 (.agg #[.int .i64 0, .string ⟨#[]⟩, .string ⟨#[]⟩]) 40 Try.underlying22 hi hz0 hz1 hz2 rfl _ 0 [] rfl (World.ownsRow_nil _ _ _ _) A j c (l.take j) rfl (HRT.out _ HB5.out) (by unfold maxLen; omega) (by omega) (Nat.le_refl _) ?_; intro v6 w6 hown6 hg6 _; have hb6 : Below W5.heap.size W5 w6 := (Below.refl _ _).grown hg6 (Nat.le_refl _) (fun k hk => by cases hk); have HO6 := Lib.hid hown6; have HB6 := Lib.hid (thn HB5.out hb6); have HZ6 := Lib.hid hb6.size; have hw0 := cell_keep hy0 hb6; have hw1 := cell_keep hy1 hb6; have hw2 := cell_keep hy2 hb6; clear hown6 hg6 hb6 hy0 hy1 hy2)
        have HB7 := Lib.hid (thn HB6.out (below1 w6 (.cells #[.int .i64 x.t, .string x.lo.s, .string x.hi.s] 26)))
        have HO7 := Lib.hid (own_below HO6.out (below1 w6 (.cells #[.int .i64 x.t, .string x.lo.s, .string x.hi.s] 26)))
        have HNW : Hid (∀ j u, (lks [x])[j]? = some u → (w6.alloc (.cells #[.int .i64 x.t, .string x.lo.s, .string x.hi.s] 26)).cell? ((⟨w6.heap.size, 0, none⟩ : Addr).add j) = some u) := Lib.hid (fun j u hu => by
          rw [add_lit, Nat.zero_add, cell_last _ _ _ _ _ rfl, ← hu]
          simp [lks, lkC])
        have HZ7 := Lib.hid (show W5.heap.size ≤ (w6.alloc (.cells #[.int .i64 x.t, .string x.lo.s, .string x.hi.s] 26)).heap.size by have := HZ6.out; simp; omega)
        go_upto_region 7 with (at_builtin; refine wpList_append_own_at _ rfl _ _ 22 rfl W5.heap.size 26 i0 (.agg #[.int .i64 0, .string ⟨#[]⟩, .string ⟨#[]⟩]) 3 40 Try.underlying22 hi hz0 hz1 hz2 rfl (by decide) v6 (0 + j) _ rfl HO7.out ⟨w6.heap.size, 0, none⟩ 1 1 (lks [x]) rfl rfl HNW.out (lks_one _) (by unfold maxLen; omega) (by omega) HZ7.out ?_; intro v8 w8 hown8 hg8 _ _; have HO8 := Lib.hid hown8; have HB8 := Lib.hid (HB7.out.grown hg8 HB7.out.size (fun k hk => Nat.le_trans HB5.out.size (HO7.out.lt k hk).1)); have HZ8 := Lib.hid (Nat.le_trans HZ7.out hg8.size); clear hown8 hg8)
        go_wp2_with (at_builtin; refine wpList_appendR rfl _ _ 22 rfl W5.heap.size 26 i0 (.agg #[.int .i64 0, .string ⟨#[]⟩, .string ⟨#[]⟩]) 40 Try.underlying22 hi hz0 hz1 hz2 rfl v8 (0 + j + 1) _ rfl HO8.out (cutA (A) c j) (l.length - j) (c - j) (l.drop j) rfl (HRD.out _ HB8.out) (by unfold maxLen; omega) (by omega) HZ8.out ?_; intro v9 w9 hown9 hg9 _; have hown9' : w9.ownsRow W5.heap.size 26 3 v9 (l.length + 1) (lks (ins l x)) := (by rw [HINS.out, lks_app]; have e1 : 0 + j + 1 + (l.length - j) = l.length + 1 := (by omega); rw [e1] at hown9; simpa [lks] using hown9); obtain ⟨A9, c9, rfl, hr9⟩ := Rd.of_own hown9'; have HR9 := Lib.hid hr9; have HB9 := Lib.hid (HB8.out.grown hg9 HB8.out.size (fun k hk => Nat.le_trans HB5.out.size (HO8.out.lt k hk).1)); clear hown9 hown9' hg9 hr9)
        go_ret
        exact ⟨A9, _, c9, rfl, HR9.out, HB9.out⟩
end Go.Proofs.Ytmjcmeebcochgaa
