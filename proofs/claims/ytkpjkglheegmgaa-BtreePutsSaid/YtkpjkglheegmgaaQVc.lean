/- Lists put together: the walks of slices.Grow, slices.Concat, inserted and removed, of texts and of nodes' addresses. Conditions: lists that are read in memory, of few things. -/
import Derived.Test.YtkpjkglheegmgaaQVb
import Derived.Lib.AppendZeros
import Derived.Deep.RegionLaw
import Derived.RegionTactic
import Derived.Deep.RegionWith
namespace Go.Proofs.Ytkpjkglheegmgaa
open Go.RowKit
set_option linter.unusedSimpArgs false
set_option linter.unusedVariables false

theorem own_below {B : Nat} {e : TypeId} {k : Nat} {v : Value} {n : Nat} {xs : List Value} {w w' : World} (h : w.ownsRow B e k v n xs) (hb : Below w.heap.size w w') : w'.ownsRow B e k v n xs :=
  h.kept (row := none) ⟨hb.os, hb.tape, hb.output, hb.size, fun k hk _ => hb.block k hk⟩ (by cases hv : v.ownBlock <;> simp)
theorem own_le {B B' : Nat} {e : TypeId} {k : Nat} {v : Value} {n : Nat} {xs : List Value} {w : World} (h : w.ownsRow B e k v n xs) (hB : B' ≤ B) : w.ownsRow B' e k v n xs :=
  ⟨h.1, by
    rcases h.2 with h1 | ⟨g, cap, cur, h1, h2, h3⟩
    · exact .inl h1
    · exact .inr ⟨g, cap, cur, h1, by omega, h3⟩⟩
theorem own_form {w : World} {B : Nat} {e : TypeId} {k : Nat} {v : Value} {n : Nat} {xs : List Value} (h : w.ownsRow B e k v n xs) : ∃ A c, v = .slice A n c := by
  rcases h.2 with ⟨rfl, rfl⟩ | ⟨g, cap, cur, rfl, _⟩
  · exact ⟨none, 0, rfl⟩
  · exact ⟨_, cap, rfl⟩
/-- append of a list that is read, nil or not, onto one of the call's own. -/
theorem run_appendR {P : Program} (w : World) (base : Nat) (t ty e : TypeId) (i : TypeInfo) (z : Value) (bytes : Nat) (ht : P.underlying t = some (.slice e)) (hi : P.info? e = some i) (hz : i.zero = some z) (hsize : i.size = 1) (hby : i.bytes = bytes) (hzs : z.cells.size = 1)
    (v : Value) (n : Nat) (xs : List Value) (hown : w.ownsRow base e 1 v n xs) (A : Option Addr) (m c : Nat) (news : List Value) (hr : Rd w A m c news) (h1 : ∀ u ∈ news, u.oneCell' = true)
    (h63 : n + m ≤ maxLen) (hbytes : (n + m) * bytes ≤ 140737488355328) (hbase : base ≤ w.heap.size) :
    ∃ v' w', (Builtin.append_ #[t, t] ty #[v, .slice A m c]).run P w = .ok v' w' ∧ w'.ownsRow base e 1 v' (n + m) (xs ++ news) ∧ w.grownBy w' v.ownBlock ∧ (v'.ownBlock = v.ownBlock ∨ v'.ownBlock = some w.heap.size) := by
  cases A with
  | none =>
    obtain ⟨rfl, rfl⟩ := hr.nil rfl
    have hn : news = [] := List.eq_nil_of_length_eq_zero hr.len
    subst hn
    refine ⟨v, w, ?_, by simpa using hown, ⟨rfl, rfl, rfl, Nat.le_refl _, fun _ _ _ => rfl⟩, .inl rfl⟩
    rcases hown.2 with ⟨rfl, rfl⟩ | ⟨g, cap, cur, rfl, _, _, hnc, _⟩
    · simp [Builtin.append_, run_underlying ht, sizeOf, typeInfo, hi, Builtin.lenOf, Builtin.firstCells]
    · simp [Builtin.append_, run_underlying ht, sizeOf, typeInfo, hi, Builtin.lenOf, Builtin.firstCells, hnc, storeCells]
  | some ad =>
    obtain ⟨v', w', hrun, h2, h3, _, h5⟩ := run_append_own_at (P := P) w base t ty e i z 1 bytes ht hi hz hsize hby hzs (by decide) v n xs hown ad m c news (by rw [hr.len, Nat.mul_one]) (hr.cells ad rfl) h1 h63 hbytes hbase
    exact ⟨v', w', hrun, h2, h3, h5⟩
theorem wpList_appendR {P : Program} {w : World} {ops : Array Oper} {rest : List Oper} {o : Oper} {a : Act} {Q : Exit → Act → World → Prop} (hgd : o.guard = none) (s x : Operand) (t : TypeId)
    (ho : o.op = .call { callee := .builtin .append, args := #[s, x], argTypes := #[t, t] })
    (base : Nat) (e : TypeId) (i : TypeInfo) (z : Value) (bytes : Nat) (ht : P.underlying t = some (.slice e)) (hi : P.info? e = some i) (hz : i.zero = some z) (hsize : i.size = 1) (hby : i.bytes = bytes) (hzs : z.cells.size = 1)
    (v : Value) (n : Nat) (xs : List Value) (hs : a.eval s = v) (hown : w.ownsRow base e 1 v n xs) (A : Option Addr) (m c : Nat) (news : List Value) (hx : a.eval x = .slice A m c) (hr : Rd w A m c news) (h1 : ∀ u ∈ news, u.oneCell' = true)
    (h63 : n + m ≤ maxLen) (hbytes : (n + m) * bytes ≤ 140737488355328) (hbase : base ≤ w.heap.size)
    (h : ∀ v' w', w'.ownsRow base e 1 v' (n + m) (xs ++ news) → w.grownBy w' v.ownBlock → (v'.ownBlock = v.ownBlock ∨ v'.ownBlock = some w.heap.size) → wpList P ops Q rest (a.put o.dst v') w') : wpList P ops Q (o :: rest) a w := by
  obtain ⟨v', w', hrun, h2, h3, h4⟩ := run_appendR (P := P) w base t o.type e i z bytes ht hi hz hsize hby hzs v n xs hown A m c news hr h1 h63 hbytes hbase
  exact Lib.wpList_append_run w hgd s x t t ho v (.slice A m c) hs hx v' w' hrun (h v' w' h2 h3 h4)
/-- Lists that stand in the cells of a list. -/
def Parts (w : World) (q : Addr) (ps : List (List Value)) : Prop := ∀ (i : Nat) (x : List Value), ps[i]? = some x → ∃ A c, w.cell? (q.add i) = some (.slice A x.length c) ∧ Rd w A x.length c x
theorem Parts.below {w w' : World} {q : Addr} {ps : List (List Value)} (h : Parts w q ps) (hb : Below w.heap.size w w') : Parts w' q ps := fun i x hx => by
  obtain ⟨A, c, h1, h2⟩ := h i x hx
  exact ⟨A, c, cell_keep h1 hb, h2.below hb⟩
def flt (ps : List (List Value)) : List Value := ps.flatten
def tot (ps : List (List Value)) : Nat := ps.flatten.length
theorem flt_len (ps : List (List Value)) : (flt ps).length = tot ps := rfl
theorem flat_take (ps : List (List Value)) (j : Nat) (h : j < ps.length) : flt (ps.take (j + 1)) = flt (ps.take j) ++ ps[j] := by
  unfold flt
  rw [List.take_succ_eq_append_getElem h, List.flatten_append]; simp
theorem tot_take (ps : List (List Value)) (j : Nat) (h : j < ps.length) : tot (ps.take (j + 1)) = tot (ps.take j) + ps[j].length := by
  rw [← flt_len, ← flt_len, flat_take ps j h, List.length_append]
theorem flat_le (ps : List (List Value)) (j : Nat) : tot (ps.take j) ≤ tot ps := by
  unfold tot
  conv => rhs; rw [← List.take_append_drop j ps]
  rw [List.flatten_append, List.length_append]; omega
theorem two_parts {W : World} {A B : Option Addr} {n m c d : Nat} {xs ys : List Value} {T : TypeId} (h1 : Rd W A n c xs) (h2 : Rd W B m d ys) : Parts (W.alloc (.cells #[.slice A n c, .slice B m d] T)) ⟨W.heap.size, 0, none⟩ [xs, ys] := by
  intro i x hx
  have hc := fun o => World.cell?_alloc_mark W #[.slice A n c, .slice B m d] T (0, 0) o
  match i, hx with
  | 0, hx => simp at hx; subst hx; exact ⟨A, c, by rw [add_zero, h1.len]; exact hc 0, by rw [h1.len]; exact h1.below (below1 _ _)⟩
  | 1, hx => simp at hx; subst hx; exact ⟨B, d, by rw [add_ne (by omega), h2.len]; exact hc 1, by rw [h2.len]; exact h2.below (below1 _ _)⟩
theorem three_parts {W : World} {A B C : Option Addr} {n m k c d f : Nat} {xs ys zs : List Value} {T : TypeId} (h1 : Rd W A n c xs) (h2 : Rd W B m d ys) (h3 : Rd W C k f zs) : Parts (W.alloc (.cells #[.slice A n c, .slice B m d, .slice C k f] T)) ⟨W.heap.size, 0, none⟩ [xs, ys, zs] := by
  intro i x hx
  have hc := fun o => World.cell?_alloc_mark W #[.slice A n c, .slice B m d, .slice C k f] T (0, 0) o
  match i, hx with
  | 0, hx => simp at hx; subst hx; exact ⟨A, c, by rw [add_zero, h1.len]; exact hc 0, by rw [h1.len]; exact h1.below (below1 _ _)⟩
  | 1, hx => simp at hx; subst hx; exact ⟨B, d, by rw [add_ne (by omega), h2.len]; exact hc 1, by rw [h2.len]; exact h2.below (below1 _ _)⟩
  | 2, hx => simp at hx; subst hx; exact ⟨C, f, by rw [add_ne (by omega), h3.len]; exact hc 2, by rw [h3.len]; exact h3.below (below1 _ _)⟩
theorem one_cell {W : World} {T : TypeId} {u : Value} : Rd (W.alloc (.cells #[u] T)) (some ⟨W.heap.size, 0, none⟩) 1 1 [u] :=
  ⟨rfl, Nat.le_refl _, by omega, (fun e => by cases e), fun ad e j v hj => by
    injection e with e
    subst e
    match j, hj with
    | 0, hj => simp at hj; subst hj; rw [add_zero]; exact World.cell?_alloc_mark W #[u] T (0, 0) 0⟩

set_option maxRecDepth 100000 in
set_option maxHeartbeats 1000000 in
theorem growS_any (k : Nat) (w : World) (hk : k ≤ 1000000) :
    Calls Try.prog 65 #[.slice none 0 0, .int .i64 k] w fun e w' => ∃ v, e = .returned v ∧ w'.ownsRow w.heap.size 9 1 v 0 [] ∧ Below w.heap.size w w' := by
  by_cases h0 : k = 0
  · subst h0
    go_enter Try.func65, Try.ntmps65
    go_wp2
    go_ret
    exact ⟨_, rfl, World.ownsRow_nil _ _ _ _, Below.refl _ _⟩
  · have h1 : 0 < k := by omega
    have h2 : (0 : Int) < (k : Int) := by omega
    obtain ⟨i0, hi, hz0, hz1, hz2⟩ := info_parts Try.infoS
    have hc := grownCap_ge w k 0 9
    have hm := grownCap_le_maxLen w k 0 9 (by unfold maxLen; omega)
    have hm9 := hm
    unfold maxLen at hm9
    have HM9 := Lib.hid hm9
    clear hm9
    have HM := Lib.hid hm
    clear hm
    have hz : (.string ⟨#[]⟩ : Value).cells.size = 1 := rfl
    have happ := fun ty => Lib.run_append_nil_zeros (P := Try.prog) w 55 3 ty 9 i0 (.string ⟨#[]⟩) .i64 .i64 Try.underlying55 Try.underlying3 hi hz0 k h1 (by omega) (by omega) (by rw [hz2]; omega)
    have HA := Lib.hid happ
    clear happ h0
    generalize grownCap w k 0 9 = cp at hc HM HM9 HA
    go_enter Try.func65, Try.ntmps65
    go_wp2_with (at_builtin; refine Lib.wpList_append_run _ rfl _ _ _ _ rfl _ _ rfl rfl _ _ (HA.out _) ?_)
    go_ret
    refine ⟨_, rfl, ?_, (Below.refl _ _).drew.alloc (Nat.le_refl _) _⟩
    have HM8 := HM.out
    have := World.ownsRow_made (base := w.heap.size) (e := 9) (size := 1) w.drew (Builtin.zeroCells (.string ⟨#[]⟩ : Value).cells k ++ Builtin.zeroCells (.string ⟨#[]⟩ : Value).cells (cp - k)) cp (Nat.le_refl _) HM.out (by simp [size_zeroCells, hz]; omega)
    exact this

set_option maxRecDepth 100000 in
set_option maxHeartbeats 1000000 in
theorem concatS_any (q : Addr) (m c : Nat) (ps : List (List Value)) (w : World) (hm : m = ps.length) (hp : Parts w q ps) (h1 : ∀ x ∈ ps, ∀ u ∈ x, u.oneCell' = true) (hn : tot ps ≤ 1000000) (hm8 : ps.length ≤ 8) :
    Calls Try.prog 66 #[.slice (some q) m c] w fun e w' => ∃ v, e = .returned v ∧ w'.ownsRow w.heap.size 9 1 v (tot ps) (flt ps) ∧ Below w.heap.size w w' := by
  subst hm
  obtain ⟨i0, hi, hz0, hz1, hz2⟩ := info_parts Try.infoS
  have HP := Lib.hid hp
  have H1 := Lib.hid h1
  clear hp h1
  go_enter Try.func66, Try.ntmps66
  go_wp2
  go_loop [3, 5, 11] (fun s _ i => ∃ j : Nat, i = .int .i64 j ∧ j ≤ ps.length ∧ s = .int .i64 (tot (ps.take j))) (fun _ _ i => ps.length - (intOf i).toNat)
  case atStart => exact ⟨0, rfl, by omega, rfl⟩
  case round =>
    obtain ⟨j, rfl, hj, rfl⟩ := hrel
    by_cases hlt : j < ps.length
    · obtain ⟨A, cc, k0, k1⟩ := HP.out j _ (List.getElem?_eq_getElem hlt)
      have hfl2 := flat_le ps (j + 1)
      have HF := Lib.hid (tot_take ps j hlt)
      rw [HF.out] at hfl2
      have hkl := cell_lt k0
      rw [add_block] at hkl
      have hlt' : (j : Int) < (ps.length : Int) := by omega
      clear k1
      generalize tot (ps.take j) = T at HF hfl2
      generalize ps[j].length = pl at k0 HF hfl2
      go_wp2
      go_round
      case rel => exact ⟨j + 1, by go_num, hlt, by rw [HF.out]; push_cast; rfl⟩
      case measure => simp [intOf]; omega
    · obtain rfl : j = ps.length := by omega
      rw [List.take_length]
      have HFT := Lib.hid (flt_len ps)
      have HLE := Lib.hid (fun j => flat_le ps j)
      generalize tot ps = T at hn HLE HFT
      go_wp2_with (go_at_call 65; refine (growS_any _ _ hn).mono ?_; rintro e w1 ⟨v1, rfl, hO, hB⟩; obtain ⟨A1, c1, rfl⟩ := own_form hO; have HO := Lib.hid hO; have HB := Lib.hid hB; clear hO hB)
      go_loopw [6, 8, 27] (fun v _ i wr => ∃ j : Nat, i = .int .i64 j ∧ j ≤ ps.length ∧ wr.ownsRow w.heap.size 9 1 v (tot (ps.take j)) (flt (ps.take j)) ∧ Below w.heap.size w wr) (fun _ _ i _ => ps.length - (intOf i).toNat)
      case atStart => exact ⟨0, rfl, by omega, by simpa [tot, flt] using HO.out, HB.out⟩
      case round =>
        obtain ⟨j, rfl, hj, hO2, hB2⟩ := hrel
        obtain ⟨A2, c2, rfl⟩ := own_form hO2
        have HO2 := Lib.hid hO2
        have HB2 := Lib.hid hB2
        clear hO2 hB2 HO HB
        by_cases hlt : j < ps.length
        · obtain ⟨A, cc, k0, k1⟩ := (HP.out.below HB2.out) j _ (List.getElem?_eq_getElem hlt)
          have hfl2 := HLE.out (j + 1)
          have HF := Lib.hid (flat_take ps j hlt)
          have HF2 := Lib.hid (tot_take ps j hlt)
          have HX := Lib.hid (H1.out _ (List.getElem_mem hlt))
          rw [HF2.out] at hfl2
          have K1 := Lib.hid k1
          have hkl := cell_lt k0
          rw [add_block] at hkl
          have hlt' : (j : Int) < (ps.length : Int) := by omega
          clear k1
          generalize tot (ps.take j) = T2 at HO2 HF2 hfl2
          generalize flt (ps.take j) = acc at HO2 HF
          generalize ps[j] = px at k0 K1 HF HF2 HX hfl2
          go_wp2_with (at_builtin; refine wpList_appendR rfl _ _ 55 rfl w.heap.size 9 i0 (.string ⟨#[]⟩) 16 Try.underlying55 hi hz0 hz1 hz2 rfl _ _ _ rfl HO2.out _ _ _ _ rfl K1.out HX.out (by unfold maxLen; omega) (by omega) HB2.out.size ?_; intro v3 w3 hown3 hg3 hat3; have HO3 := Lib.hid hown3; have HG3 := Lib.hid hg3; clear hown3 hg3 hat3)
          go_roundw
          case rel => exact ⟨j + 1, by go_num, hlt, by rw [HF.out, HF2.out]; exact HO3.out, HB2.out.grown HG3.out HB2.out.size (fun k hk => (HO2.out.lt k hk).1)⟩
          case measure => simp [intOf]; omega
        · obtain rfl : j = ps.length := by omega
          go_wp2
          go_ret
          refine ⟨_, rfl, ?_, HB2.out⟩
          have h5 := HO2.out
          show wr.ownsRow _ _ _ (.slice A2 (tot (ps.take ps.length)) c2) (tot ps) (flt ps)
          rw [List.take_length] at h5 ⊢
          exact h5
set_option maxRecDepth 100000 in
set_option maxHeartbeats 1000000 in
theorem insS_any (A : Option Addr) (n c k : Nat) (xs : List Value) (x : Key) (w : World) (hr : Rd w A n c xs) (h1 : ∀ u ∈ xs, u.oneCell' = true) (hn : n ≤ 100000) (hk : k ≤ n) :
    Calls Try.prog 63 #[.slice A n c, .int .i64 k, .string x.s] w fun e w' => ∃ v, e = .returned v ∧ w'.ownsRow w.heap.size 9 1 v (n + 1) (ins1 xs k (.string x.s)) ∧ Below w.heap.size w w' := by
  have hle := hr.le
  have hkc : (k : Int) ≤ (c : Int) := by omega
  have e1 := fun w => run_to (t := 55) Try.underlying55 (size_of Try.infoS) A n c k (by omega) w
  have e2 := fun w => run_from (t := 55) Try.underlying55 (size_of Try.infoS) A n c k hk w
  have HD := Lib.hid (hr.drop hk)
  have HT := Lib.hid (hr.take hk)
  have HL := Lib.hid hr.len
  clear hr
  generalize cutA A c k = B at e2 HD
  have HTOT : Hid (tot [xs.take k, [.string x.s], xs.drop k] = n + 1 ∧ flt [xs.take k, [.string x.s], xs.drop k] = ins1 xs k (.string x.s)) := Lib.hid ⟨by have := HL.out; simp [tot]; omega, by simp [flt, ins1]⟩
  have HC := Lib.hid fun q W (hp : Parts W q [xs.take k, [.string x.s], xs.drop k]) => concatS_any q 3 3 [xs.take k, [.string x.s], xs.drop k] W rfl hp (fun x hx => by
    simp at hx
    rcases hx with rfl | rfl | rfl
    · exact fun y hy => h1 y (List.mem_of_mem_take hy)
    · intro y hy; simp at hy; subst hy; rfl
    · exact fun y hy => h1 y (List.mem_of_mem_drop hy)) (by rw [HTOT.out.1]; omega) (by simp)
  clear h1
  have hP := (three_parts (W := w.alloc (.cells #[.string x.s] 9)) (T := 55) (HT.out.below (below1 w (.cells #[.string x.s] 9))) (one_cell (W := w) (T := 9) (u := .string x.s)) (HD.out.below (below1 w (.cells #[.string x.s] 9)))).below (Below.refl _ _).drew
  rw [World.size_alloc] at hP
  have HC2 := Lib.hid (HC.out _ _ hP)
  clear hP HC
  go_enter Try.func63, Try.ntmps63
  go_wp2
  go_region_law (first | (go_simp; go_at_call 66; (with_reducible refine HC2.out.mono ?_); rintro e w1 ⟨v1, rfl, hO, hB⟩))
  all_goals
    go_wp2
    go_ret
    rw [HTOT.out.1, HTOT.out.2] at hO
    have h2 := thn (below2 w (.cells #[.string x.s] 9) (.cells #[.slice A k c, .slice (some ⟨w.heap.size, 0, none⟩) 1 1, .slice B (n - k) (c - k)] 55)).drew hB
    exact ⟨_, rfl, own_le hO (by simp; omega), h2⟩
set_option maxRecDepth 100000 in
set_option maxHeartbeats 1000000 in
theorem remS_any (A : Option Addr) (n c k : Nat) (xs : List Value) (w : World) (hr : Rd w A n c xs) (h1 : ∀ u ∈ xs, u.oneCell' = true) (hn : n ≤ 100000) (hk : k < n) :
    Calls Try.prog 62 #[.slice A n c, .int .i64 k] w fun e w' => ∃ v, e = .returned v ∧ w'.ownsRow w.heap.size 9 1 v (n - 1) (rem1 xs k) ∧ Below w.heap.size w w' := by
  have hle := hr.le
  have hkc : (k : Int) ≤ (c : Int) := by omega
  have e1 := fun w => run_to (t := 55) Try.underlying55 (size_of Try.infoS) A n c k (by omega) w
  have e2 : ∀ w, (Instr.slice 55 (.slice A n c) (some (.int .i64 ((k : Int) + 1))) none none).run Try.prog w = .ok (.slice (cutA A c (k + 1)) (n - (k + 1)) (c - (k + 1))) w := fun w => by
    have := run_from (t := 55) Try.underlying55 (size_of Try.infoS) A n c (k + 1) (by omega) w
    push_cast at this
    exact this
  have hk1 : (k : Int) + 1 ≤ (n : Int) := by omega
  have hk0 : 0 ≤ (k : Int) + 1 := by omega
  have HD := Lib.hid (hr.drop (k := k + 1) (by omega))
  have HT := Lib.hid (hr.take (k := k) (by omega))
  have HL := Lib.hid hr.len
  clear hr
  generalize cutA A c (k + 1) = B at e2 HD
  have HTOT : Hid (tot [xs.take k, xs.drop (k + 1)] = n - 1 ∧ flt [xs.take k, xs.drop (k + 1)] = rem1 xs k) := Lib.hid ⟨by have := HL.out; simp [tot]; omega, by simp [flt, rem1]⟩
  have HC := Lib.hid fun q W (hp : Parts W q [xs.take k, xs.drop (k + 1)]) => concatS_any q 2 2 [xs.take k, xs.drop (k + 1)] W rfl hp (fun x hx => by
    simp at hx
    rcases hx with rfl | rfl
    · exact fun y hy => h1 y (List.mem_of_mem_take hy)
    · exact fun y hy => h1 y (List.mem_of_mem_drop hy)) (by rw [HTOT.out.1]; omega) (by simp)
  clear h1
  have hP := (two_parts (W := w) (T := 55) HT.out HD.out).below (Below.refl _ _).drew
  have HC2 := Lib.hid (HC.out _ _ hP)
  clear hP HC
  have hw1 : IntKind.i64.wrap ((k : Int) + 1) = (k : Int) + 1 := IntWalk.i64_in _ (by omega)
  go_enter Try.func62, Try.ntmps62
  go_wp2
  go_region_law (first | (go_simp; go_at_call 66; (with_reducible refine HC2.out.mono ?_); rintro e w1 ⟨v1, rfl, hO, hB⟩))
  all_goals
    go_wp2
    go_ret
    rw [HTOT.out.1, HTOT.out.2] at hO
    have h2 := thn (below1 w (.cells #[.slice A k c, .slice B (n - (k + 1)) (c - (k + 1))] 55)).drew hB
    exact ⟨_, rfl, own_le hO (by simp), h2⟩

set_option maxRecDepth 100000 in
set_option maxHeartbeats 1000000 in
theorem growB_any (k : Nat) (w : World) (hk : k ≤ 1000000) :
    Calls Try.prog 75 #[.slice none 0 0, .int .i64 k] w fun e w' => ∃ v, e = .returned v ∧ w'.ownsRow w.heap.size 67 1 v 0 [] ∧ Below w.heap.size w w' := by
  by_cases h0 : k = 0
  · subst h0
    go_enter Try.func75, Try.ntmps75
    go_wp2
    go_ret
    exact ⟨_, rfl, World.ownsRow_nil _ _ _ _, Below.refl _ _⟩
  · have h1 : 0 < k := by omega
    have h2 : (0 : Int) < (k : Int) := by omega
    obtain ⟨i0, hi, hz0, hz1, hz2⟩ := info_parts Try.infoB
    have hc := grownCap_ge w k 0 67
    have hm := grownCap_le_maxLen w k 0 67 (by unfold maxLen; omega)
    have hm9 := hm
    unfold maxLen at hm9
    have HM9 := Lib.hid hm9
    clear hm9
    have HM := Lib.hid hm
    clear hm
    have hz : (.pointer none : Value).cells.size = 1 := rfl
    have happ := fun ty => Lib.run_append_nil_zeros (P := Try.prog) w 97 3 ty 67 i0 (.pointer none) .i64 .i64 Try.underlying97 Try.underlying3 hi hz0 k h1 (by omega) (by omega) (by rw [hz2]; omega)
    have HA := Lib.hid happ
    clear happ h0
    generalize grownCap w k 0 67 = cp at hc HM HM9 HA
    go_enter Try.func75, Try.ntmps75
    go_wp2_with (at_builtin; refine Lib.wpList_append_run _ rfl _ _ _ _ rfl _ _ rfl rfl _ _ (HA.out _) ?_)
    go_ret
    refine ⟨_, rfl, ?_, (Below.refl _ _).drew.alloc (Nat.le_refl _) _⟩
    have HM8 := HM.out
    have := World.ownsRow_made (base := w.heap.size) (e := 67) (size := 1) w.drew (Builtin.zeroCells (.pointer none : Value).cells k ++ Builtin.zeroCells (.pointer none : Value).cells (cp - k)) cp (Nat.le_refl _) HM.out (by simp [size_zeroCells, hz]; omega)
    exact this

set_option maxRecDepth 100000 in
set_option maxHeartbeats 1000000 in
theorem concatB_any (q : Addr) (m c : Nat) (ps : List (List Value)) (w : World) (hm : m = ps.length) (hp : Parts w q ps) (h1 : ∀ x ∈ ps, ∀ u ∈ x, u.oneCell' = true) (hn : tot ps ≤ 1000000) (hm8 : ps.length ≤ 8) :
    Calls Try.prog 67 #[.slice (some q) m c] w fun e w' => ∃ v, e = .returned v ∧ w'.ownsRow w.heap.size 67 1 v (tot ps) (flt ps) ∧ Below w.heap.size w w' := by
  subst hm
  obtain ⟨i0, hi, hz0, hz1, hz2⟩ := info_parts Try.infoB
  have HP := Lib.hid hp
  have H1 := Lib.hid h1
  clear hp h1
  go_enter Try.func67, Try.ntmps67
  go_wp2
  go_loop [3, 5, 11] (fun s _ i => ∃ j : Nat, i = .int .i64 j ∧ j ≤ ps.length ∧ s = .int .i64 (tot (ps.take j))) (fun _ _ i => ps.length - (intOf i).toNat)
  case atStart => exact ⟨0, rfl, by omega, rfl⟩
  case round =>
    obtain ⟨j, rfl, hj, rfl⟩ := hrel
    by_cases hlt : j < ps.length
    · obtain ⟨A, cc, k0, k1⟩ := HP.out j _ (List.getElem?_eq_getElem hlt)
      have hfl2 := flat_le ps (j + 1)
      have HF := Lib.hid (tot_take ps j hlt)
      rw [HF.out] at hfl2
      have hkl := cell_lt k0
      rw [add_block] at hkl
      have hlt' : (j : Int) < (ps.length : Int) := by omega
      clear k1
      generalize tot (ps.take j) = T at HF hfl2
      generalize ps[j].length = pl at k0 HF hfl2
      go_wp2
      go_round
      case rel => exact ⟨j + 1, by go_num, hlt, by rw [HF.out]; push_cast; rfl⟩
      case measure => simp [intOf]; omega
    · obtain rfl : j = ps.length := by omega
      rw [List.take_length]
      have HFT := Lib.hid (flt_len ps)
      have HLE := Lib.hid (fun j => flat_le ps j)
      generalize tot ps = T at hn HLE HFT
      go_wp2_with (go_at_call 75; refine (growB_any _ _ hn).mono ?_; rintro e w1 ⟨v1, rfl, hO, hB⟩; obtain ⟨A1, c1, rfl⟩ := own_form hO; have HO := Lib.hid hO; have HB := Lib.hid hB; clear hO hB)
      go_loopw [6, 8, 27] (fun v _ i wr => ∃ j : Nat, i = .int .i64 j ∧ j ≤ ps.length ∧ wr.ownsRow w.heap.size 67 1 v (tot (ps.take j)) (flt (ps.take j)) ∧ Below w.heap.size w wr) (fun _ _ i _ => ps.length - (intOf i).toNat)
      case atStart => exact ⟨0, rfl, by omega, by simpa [tot, flt] using HO.out, HB.out⟩
      case round =>
        obtain ⟨j, rfl, hj, hO2, hB2⟩ := hrel
        obtain ⟨A2, c2, rfl⟩ := own_form hO2
        have HO2 := Lib.hid hO2
        have HB2 := Lib.hid hB2
        clear hO2 hB2 HO HB
        by_cases hlt : j < ps.length
        · obtain ⟨A, cc, k0, k1⟩ := (HP.out.below HB2.out) j _ (List.getElem?_eq_getElem hlt)
          have hfl2 := HLE.out (j + 1)
          have HF := Lib.hid (flat_take ps j hlt)
          have HF2 := Lib.hid (tot_take ps j hlt)
          have HX := Lib.hid (H1.out _ (List.getElem_mem hlt))
          rw [HF2.out] at hfl2
          have K1 := Lib.hid k1
          have hkl := cell_lt k0
          rw [add_block] at hkl
          have hlt' : (j : Int) < (ps.length : Int) := by omega
          clear k1
          generalize tot (ps.take j) = T2 at HO2 HF2 hfl2
          generalize flt (ps.take j) = acc at HO2 HF
          generalize ps[j] = px at k0 K1 HF HF2 HX hfl2
          go_wp2_with (at_builtin; refine wpList_appendR rfl _ _ 97 rfl w.heap.size 67 i0 (.pointer none) 8 Try.underlying97 hi hz0 hz1 hz2 rfl _ _ _ rfl HO2.out _ _ _ _ rfl K1.out HX.out (by unfold maxLen; omega) (by omega) HB2.out.size ?_; intro v3 w3 hown3 hg3 hat3; have HO3 := Lib.hid hown3; have HG3 := Lib.hid hg3; clear hown3 hg3 hat3)
          go_roundw
          case rel => exact ⟨j + 1, by go_num, hlt, by rw [HF.out, HF2.out]; exact HO3.out, HB2.out.grown HG3.out HB2.out.size (fun k hk => (HO2.out.lt k hk).1)⟩
          case measure => simp [intOf]; omega
        · obtain rfl : j = ps.length := by omega
          go_wp2
          go_ret
          refine ⟨_, rfl, ?_, HB2.out⟩
          have h5 := HO2.out
          show wr.ownsRow _ _ _ (.slice A2 (tot (ps.take ps.length)) c2) (tot ps) (flt ps)
          rw [List.take_length] at h5 ⊢
          exact h5
set_option maxRecDepth 100000 in
set_option maxHeartbeats 1000000 in
theorem insB_any (A : Option Addr) (n c k : Nat) (xs : List Value) (g : Nat) (w : World) (hr : Rd w A n c xs) (h1 : ∀ u ∈ xs, u.oneCell' = true) (hn : n ≤ 100000) (hk : k ≤ n) :
    Calls Try.prog 64 #[.slice A n c, .int .i64 k, .pointer (some ⟨g, 0, none⟩)] w fun e w' => ∃ v, e = .returned v ∧ w'.ownsRow w.heap.size 67 1 v (n + 1) (ins1 xs k (.pointer (some ⟨g, 0, none⟩))) ∧ Below w.heap.size w w' := by
  have hle := hr.le
  have hkc : (k : Int) ≤ (c : Int) := by omega
  have e1 := fun w => run_to (t := 97) Try.underlying97 (size_of Try.infoB) A n c k (by omega) w
  have e2 := fun w => run_from (t := 97) Try.underlying97 (size_of Try.infoB) A n c k hk w
  have HD := Lib.hid (hr.drop hk)
  have HT := Lib.hid (hr.take hk)
  have HL := Lib.hid hr.len
  clear hr
  generalize cutA A c k = B at e2 HD
  have HTOT : Hid (tot [xs.take k, [.pointer (some ⟨g, 0, none⟩)], xs.drop k] = n + 1 ∧ flt [xs.take k, [.pointer (some ⟨g, 0, none⟩)], xs.drop k] = ins1 xs k (.pointer (some ⟨g, 0, none⟩))) := Lib.hid ⟨by have := HL.out; simp [tot]; omega, by simp [flt, ins1]⟩
  have HC := Lib.hid fun q W (hp : Parts W q [xs.take k, [.pointer (some ⟨g, 0, none⟩)], xs.drop k]) => concatB_any q 3 3 [xs.take k, [.pointer (some ⟨g, 0, none⟩)], xs.drop k] W rfl hp (fun x hx => by
    simp at hx
    rcases hx with rfl | rfl | rfl
    · exact fun y hy => h1 y (List.mem_of_mem_take hy)
    · intro y hy; simp at hy; subst hy; rfl
    · exact fun y hy => h1 y (List.mem_of_mem_drop hy)) (by rw [HTOT.out.1]; omega) (by simp)
  clear h1
  have hP := (three_parts (W := w.alloc (.cells #[.pointer (some ⟨g, 0, none⟩)] 67)) (T := 97) (HT.out.below (below1 w (.cells #[.pointer (some ⟨g, 0, none⟩)] 67))) (one_cell (W := w) (T := 67) (u := .pointer (some ⟨g, 0, none⟩))) (HD.out.below (below1 w (.cells #[.pointer (some ⟨g, 0, none⟩)] 67)))).below (Below.refl _ _).drew
  rw [World.size_alloc] at hP
  have HC2 := Lib.hid (HC.out _ _ hP)
  clear hP HC
  go_enter Try.func64, Try.ntmps64
  go_wp2
  go_region_law (first | (go_simp; go_at_call 67; (with_reducible refine HC2.out.mono ?_); rintro e w1 ⟨v1, rfl, hO, hB⟩))
  all_goals
    go_wp2
    go_ret
    rw [HTOT.out.1, HTOT.out.2] at hO
    have h2 := thn (below2 w (.cells #[.pointer (some ⟨g, 0, none⟩)] 67) (.cells #[.slice A k c, .slice (some ⟨w.heap.size, 0, none⟩) 1 1, .slice B (n - k) (c - k)] 97)).drew hB
    exact ⟨_, rfl, own_le hO (by simp; omega), h2⟩
set_option maxRecDepth 100000 in
set_option maxHeartbeats 1000000 in
theorem remB_any (A : Option Addr) (n c k : Nat) (xs : List Value) (w : World) (hr : Rd w A n c xs) (h1 : ∀ u ∈ xs, u.oneCell' = true) (hn : n ≤ 100000) (hk : k < n) :
    Calls Try.prog 68 #[.slice A n c, .int .i64 k] w fun e w' => ∃ v, e = .returned v ∧ w'.ownsRow w.heap.size 67 1 v (n - 1) (rem1 xs k) ∧ Below w.heap.size w w' := by
  have hle := hr.le
  have hkc : (k : Int) ≤ (c : Int) := by omega
  have e1 := fun w => run_to (t := 97) Try.underlying97 (size_of Try.infoB) A n c k (by omega) w
  have e2 : ∀ w, (Instr.slice 97 (.slice A n c) (some (.int .i64 ((k : Int) + 1))) none none).run Try.prog w = .ok (.slice (cutA A c (k + 1)) (n - (k + 1)) (c - (k + 1))) w := fun w => by
    have := run_from (t := 97) Try.underlying97 (size_of Try.infoB) A n c (k + 1) (by omega) w
    push_cast at this
    exact this
  have hk1 : (k : Int) + 1 ≤ (n : Int) := by omega
  have hk0 : 0 ≤ (k : Int) + 1 := by omega
  have HD := Lib.hid (hr.drop (k := k + 1) (by omega))
  have HT := Lib.hid (hr.take (k := k) (by omega))
  have HL := Lib.hid hr.len
  clear hr
  generalize cutA A c (k + 1) = B at e2 HD
  have HTOT : Hid (tot [xs.take k, xs.drop (k + 1)] = n - 1 ∧ flt [xs.take k, xs.drop (k + 1)] = rem1 xs k) := Lib.hid ⟨by have := HL.out; simp [tot]; omega, by simp [flt, rem1]⟩
  have HC := Lib.hid fun q W (hp : Parts W q [xs.take k, xs.drop (k + 1)]) => concatB_any q 2 2 [xs.take k, xs.drop (k + 1)] W rfl hp (fun x hx => by
    simp at hx
    rcases hx with rfl | rfl
    · exact fun y hy => h1 y (List.mem_of_mem_take hy)
    · exact fun y hy => h1 y (List.mem_of_mem_drop hy)) (by rw [HTOT.out.1]; omega) (by simp)
  clear h1
  have hP := (two_parts (W := w) (T := 97) HT.out HD.out).below (Below.refl _ _).drew
  have HC2 := Lib.hid (HC.out _ _ hP)
  clear hP HC
  have hw1 : IntKind.i64.wrap ((k : Int) + 1) = (k : Int) + 1 := IntWalk.i64_in _ (by omega)
  go_enter Try.func68, Try.ntmps68
  go_wp2
  go_region_law (first | (go_simp; go_at_call 67; (with_reducible refine HC2.out.mono ?_); rintro e w1 ⟨v1, rfl, hO, hB⟩))
  all_goals
    go_wp2
    go_ret
    rw [HTOT.out.1, HTOT.out.2] at hO
    have h2 := thn (below1 w (.cells #[.slice A k c, .slice B (n - (k + 1)) (c - (k + 1))] 97)).drew hB
    exact ⟨_, rfl, own_le hO (by simp), h2⟩
end Go.Proofs.Ytkpjkglheegmgaa
