/- The document's answers asked: the walks of its Check, Pairs, Depth and Range. Conditions: a state that is read in memory, whose lists a machine can hold. -/
import Derived.Test.YtkpjkglheegmgaaQu
import Derived.Test.YtkpjkglheegmgaaQv
/- The document's reading of a tree: the walk of read. Conditions: a state that is read in memory, whose lists a machine can hold. -/
namespace Go.Proofs.Ytkpjkglheegmgaa
open Go.RowKit
set_option linter.unusedSimpArgs false
set_option linter.unusedVariables false

theorem Try.infoBo : (Try.prog.info? 4).map (fun i => (i.zero, i.size, i.bytes)) = some (some (.bool false), 1, 1) := by kernel_rfl
/-- m truths that are false. -/
def falses (m : Nat) : Array Value := (List.replicate m (.bool false)).toArray
theorem run_falses (m : Nat) (hm : m ≤ 100000000000000) (W : World) : (Instr.makeSlice 56 (.int .i64 (m : Int)) (.int .i64 (m : Int))).run Try.prog W = .ok (.slice (some ⟨W.heap.size, 0, none⟩) m m) (W.alloc (.cells (falses m) 4)) := by
  obtain ⟨i0, hi, hz0, hz1, hz2⟩ := info_parts3 Try.infoBo
  have h := run_make (P := Try.prog) W 56 4 i0 (.bool false) Try.underlying56 hi hz0 .i64 .i64 (m : Int) (m : Int) (by omega) (Int.le_refl _) (by rw [hz2]; omega) (by omega)
  simp only [Int.toNat_natCast, hz1, Nat.mul_one] at h
  have e : madeCells (Value.bool false).cells m = falses m := by
    have : madeCells (Value.bool false).cells m = madeCells #[.bool false] m := rfl
    rw [this, ← Array.toList_inj, toList_madeCells_one]
    rfl
  rw [h, e]
/-- What the document's read answers of a state: pairs, how deep it is; nothing is said of one that may not be. -/
def ReadR (R : Option (Nat × Tr)) (B : Nat) (w' : World) (v : Value) (L : Nat) : Prop := match R with
  | none => True
  | some (m, t) => w'.ownsRow B 47 2 v (prs m t).length (pcells (prs m t)) ∧ L = depD (some (m, t))
theorem rdS_nil (root : Int) : rdS [] root = if root = -1 then some (0, noT) else none := by
  simp [rdS]
theorem sub_le : ∀ (l m : List Nat), l.Nodup → (∀ x ∈ l, x ∈ m) → l.length ≤ m.length
  | [], m, _, _ => Nat.zero_le _
  | a :: l, m, hn, h => by
    obtain ⟨h1, h2⟩ := List.nodup_cons.1 hn
    have ha := h a (by simp)
    have ih := sub_le l (m.erase a) h2 fun x hx => (List.mem_erase_of_ne fun e => h1 (by subst e; exact hx)).2 (h x (by simp [hx]))
    have hl := List.length_erase_of_mem ha
    have hp : 0 < m.length := List.length_pos_of_mem ha
    simp; omega
/-- What the walk makes of a state with nodes. -/
theorem rdS_rd {nodes : List Nd} {root : Int} (h0 : nodes ≠ []) {R : Option (Tr × Sr)} (hR : rd nodes nodes.length none none 1 root ⟨[], 0, 0⟩ = R) :
    (R = none → rdS nodes root = none) ∧ ∀ t s, R = some (t, s) → ((∀ i, i < nodes.length → i ∈ s.M) → rdS nodes root = some (s.L - 1, t) ∧ depD (some (s.L - 1, t)) = s.L) ∧ (¬ (∀ i, i < nodes.length → i ∈ s.M) → rdS nodes root = none) := by
  have he : ¬ nodes.isEmpty = true := fun e => h0 (List.isEmpty_iff.1 e)
  unfold rdS
  rw [if_neg he, hR]
  refine ⟨fun e => by rw [e], fun t s e => ?_⟩
  rw [e]
  simp only
  subst e
  obtain ⟨hf, hm⟩ := rd_met nodes _ _ _ _ _ _ _ _ hR ⟨List.nodup_nil, fun y hy => (by cases hy)⟩
  obtain ⟨m, hok, told⟩ := rd_ok nodes _ _ _ _ _ _ _ _ hR (Nat.le_refl _)
  have hle := nodup_le nodes.length s.M hf.1 hf.2
  refine ⟨fun hall => ?_, fun hno => ?_⟩
  · have hge : nodes.length ≤ s.M.length := by
      have h1 := sub_le (List.range nodes.length) s.M List.nodup_range fun i hi => hall i (List.mem_range.1 hi)
      simpa using h1
    rw [if_pos (by omega)]
    refine ⟨rfl, ?_⟩
    unfold depD
    simp only
    have hl := hok.len
    have hl1 := told.l1
    have : least 1 = 1 := rfl
    rw [if_neg (by omega)]
    omega
  · rw [if_neg fun e => hno (nodup_full hf.1 hf.2 (by omega))]
set_option maxRecDepth 100000 in
set_option maxHeartbeats 4000000 in
theorem readR_nil (n c : Nat) (A : Option Addr) (root : Int) (w : World) (hn : n = 0) :
    Calls Try.prog 29 #[.agg #[.slice A n c, .int .i64 root]] w fun e w' => Below w.heap.size w w' ∧ ∃ A' m c' L, e = .returned (.tuple #[.slice A' m c', .int .i64 (L : Nat), .bool (rdS [] root).isSome]) ∧ ReadR (rdS [] root) w.heap.size w' (.slice A' m c') L := by
  subst hn
  have hD : ∃ D : Bool, (root == -1) = D ∧ (rdS [] root).isSome = D := by
    refine ⟨_, rfl, ?_⟩
    rw [rdS_nil]
    by_cases h : root = -1
    · rw [if_pos h, beq_iff_eq.2 h]; rfl
    · rw [if_neg h, beq_false_of_ne h]; rfl
  obtain ⟨D, hd, hs⟩ := hD
  have hrr : ∀ (B : Nat) (w' : World), ReadR (rdS [] root) B w' (.slice none 0 0) 0 := by
    intro B w'
    rw [rdS_nil]
    by_cases h : root = -1
    · rw [if_pos h]
      exact ⟨World.ownsRow_nil _ _ _ _, rfl⟩
    · rw [if_neg h]
      trivial
  have HRR := Lib.hid hrr
  clear hrr
  rw [hs]
  clear hs
  go_enter Try.func29, Try.ntmps29
  go_upto_region 2 with fail
  go_region
  all_goals
    go_wp2
    exact bodyPost_ret (v := .tuple #[.slice none 0 0, .int .i64 0, .bool D]) (by simp [results, Try.results29, go_sem]) rfl ⟨by first | exact below1 _ _ | exact (below1 _ _).drew, none, 0, 0, 0, rfl, HRR.out _ _⟩
set_option maxRecDepth 100000 in
set_option maxHeartbeats 4000000 in
theorem readR_some (nodes : List Nd) (n c : Nat) (A : Option Addr) (root : Int) (w : World) (hS : RdS w A n nodes) (hRe : Reach nodes) (hW : Wfn nodes) (hr : -9223372036854775808 ≤ root ∧ root ≤ 9223372036854775807) (h0 : nodes ≠ []) :
    Calls Try.prog 29 #[.agg #[.slice A n c, .int .i64 root]] w fun e w' => Below w.heap.size w w' ∧ ∃ A' m c' L, e = .returned (.tuple #[.slice A' m c', .int .i64 (L : Nat), .bool (rdS nodes root).isSome]) ∧ ReadR (rdS nodes root) w.heap.size w' (.slice A' m c') L := by
  have hn := hS.len
  have hpos : 0 < nodes.length := List.length_pos_iff.2 h0
  have hnb : n ≤ 2000000000000 := by have := hRe.1; omega
  have HRS := Lib.hid (rdS_rd (root := root) h0 rfl)
  have hn0 : ((n : Int) == 0) = false := beq_false_of_ne (by omega)
  have hmf := run_falses n (by omega)
  have HN := Lib.hid hn
  have HNODE := Lib.hid fun (W : World) (gw gm : Nat) hk hb => (show Calls Try.prog 46 #[ptr gw, .int .i64 root, .int .i64 1, .slice none 0 0, .slice none 0 0] W fun e w' => e = .returned (.tuple #[]) ∧ NdPost W w' w.heap.size gw gm A n c root (.slice none 0 0) [] 1 (rd nodes nodes.length none none 1 root ⟨[], 0, 0⟩) from
    node_any w nodes 100000000000000 (Nat.le_refl _) hW gw gm A n c root hS nodes.length 1 none none root ⟨[], 0, 0⟩ W (.slice none 0 0) [] (.slice none 0 0) (.slice none 0 0) hk hb ⟨rfl, ⟨List.nodup_nil, fun y hy => (by cases hy)⟩, by simp, by simp, by simp, Nat.le_refl _, by omega⟩ hr ⟨none, 0, rfl⟩ ⟨none, 0, rfl⟩)
  clear hS hRe hW hr h0 hpos hn
  go_enter Try.func29, Try.ntmps29
  go_upto_region 3 with fail
  go_region
  have hw1 := below1 w (.cells #[.slice A n c, .int .i64 root] 24)
  have hk0 : ∃ W3, W3 = (((w.alloc (.cells #[.slice A n c, .int .i64 root] 24)).alloc (.cells (falses n) 4)).alloc (.cells #[.slice A n c, .int .i64 root, .slice (some ⟨w.heap.size + 1, 0, none⟩) n n, .slice none 0 0, .int .i64 0, .bool false] 95)).drew := ⟨_, rfl⟩
  obtain ⟨W3, hW3⟩ := hk0
  rw [← hW3]
  have hb3 : Below w.heap.size w W3 := by
    rw [hW3]
    exact (((below1 w _).alloc (by simp) _).alloc (by simp; omega) _).drew
  have hgm : W3.heap[w.heap.size + 1]? = some (.cells (falses n) 4 (0, 0)) := by
    rw [hW3]
    have := heap_alloc_new (w.alloc (.cells #[.slice A n c, .int .i64 root] 24)) (.cells (falses n) 4)
    rw [World.size_alloc] at this
    exact (Below.heap_alloc _ _ _ (by simp)).trans this
  have hgw : W3.heap[w.heap.size + 1 + 1]? = some (.cells #[.slice A n c, .int .i64 root, .slice (some ⟨w.heap.size + 1, 0, none⟩) n n, .slice none 0 0, .int .i64 0, .bool false] 95 (0, 0)) := by
    rw [hW3]
    have := heap_alloc_new ((w.alloc (.cells #[.slice A n c, .int .i64 root] 24)).alloc (.cells (falses n) 4)) (.cells #[.slice A n c, .int .i64 root, .slice (some ⟨w.heap.size + 1, 0, none⟩) n n, .slice none 0 0, .int .i64 0, .bool false] 95)
    rw [World.size_alloc, World.size_alloc] at this
    exact this
  have hs3 : W3.cell? ⟨w.heap.size, 1, none⟩ = some (.int .i64 root) := by
    have h1 : W3.heap[w.heap.size]? = some (.cells #[.slice A n c, .int .i64 root] 24 (0, 0)) := by
      rw [hW3]
      exact (Below.heap_alloc _ _ _ (by simp; omega)).trans ((Below.heap_alloc _ _ _ (by simp)).trans (heap_alloc_new w _))
    simp [World.cell?, h1]
  have k3 : Wk W3 w.heap.size (w.heap.size + 1 + 1) (w.heap.size + 1) A n c root [] (.slice none 0 0) [] 0 false :=
    ⟨by omega, by omega, hgw, ⟨falses n, hgm, by simp [falses], fun i hi => by simp [falses, hi]⟩, World.ownsRow_nil _ _ _ _⟩
  have HND := Lib.hid (HNODE.out W3 (w.heap.size + 1 + 1) (w.heap.size + 1) k3 hb3)
  have HB3 := Lib.hid hb3
  have HK3 := Lib.hid k3
  clear hW3 hgm hgw k3 hb3 hw1 HNODE
  generalize w.heap.size + 1 + 1 = gw at *
  generalize w.heap.size + 1 = gm at *
  go_upto_region 5 with (first | (go_at_call 46; (with_reducible refine HND.out.mono ?_); rintro e w4 ⟨rfl, hnp⟩; have HNP := Lib.hid hnp; clear hnp))
  have hst : ∃ (vo : Value) (M : List Nat) (out : List Pr) (L : Nat) (b : Bool), Wk w4 w.heap.size gw gm A n c root M vo out L b ∧ Below w.heap.size w w4 ∧ (b = false → ∃ t s, rd nodes nodes.length none none 1 root ⟨[], 0, 0⟩ = some (t, s) ∧ M = s.M ∧ L = s.L ∧ out = prs (s.L - 1) t) ∧ (b = true → rd nodes nodes.length none none 1 root ⟨[], 0, 0⟩ = none) := by
    obtain ⟨vo, hf, ho, hm⟩ := HNP.out
    have hb4 := HB3.out.trans (HK3.out.fr hf HB3.out.size)
    cases hR : rd nodes nodes.length none none 1 root ⟨[], 0, 0⟩ with
    | none =>
      rw [hR] at hm
      obtain ⟨M, out, L, k⟩ := hm
      exact ⟨vo, M, out, L, true, k, hb4, fun e => (by cases e), fun _ => rfl⟩
    | some r =>
      obtain ⟨t, s⟩ := r
      rw [hR] at hm
      exact ⟨vo, s.M, _, s.L, false, hm, hb4, fun _ => ⟨t, s, rfl, rfl, rfl, by simp⟩, fun e => (by cases e)⟩
  obtain ⟨vo, M, out, L, b4, k4, hb4, hf4, ht4⟩ := hst
  have HK4 := Lib.hid k4
  have HB4 := Lib.hid hb4
  have HF4 := Lib.hid hf4
  have HT4 := Lib.hid ht4
  clear k4 hb4 hf4 ht4 HND HNP HK3 HB3 hs3
  go_wp2
  go_loopw [6] (fun iv wr => ∃ (j : Nat) (b : Bool), iv = .int .i64 j ∧ j ≤ n ∧ Wk wr w.heap.size gw gm A n c root M vo out L b ∧ Below w.heap.size w wr ∧ (b = false ↔ b4 = false ∧ ∀ i, i < j → i ∈ M)) (fun iv _ => n - (intOf iv).toNat)
  case atStart => exact ⟨0, b4, rfl, by omega, HK4.out, HB4.out, ⟨fun h => ⟨h, fun i hi => by omega⟩, fun h => h.1⟩⟩
  case round =>
    obtain ⟨j, b, rfl, hj, kj, hbj, hbb⟩ := hrel
    obtain ⟨_, _, c2, c3, c4, c5, cf⟩ := kj.cells
    have cf5 := cf 5
    have hwj : IntKind.i64.wrap ((j : Int) + 1) = (j : Int) + 1 := IntWalk.i64_in _ (by omega)
    have HKJ := Lib.hid kj
    have HBJ := Lib.hid hbj
    have HBB := Lib.hid hbb
    have HSB := Lib.hid (fun (x : Value) => (show Fw gw gm vo wr (wr.setCell ⟨gw, 5, none⟩ x) from Fw.set x))
    clear hbj hbb cf
    by_cases hlt : j < n
    · have hlt' : (j : Int) < (n : Int) := by omega
      obtain ⟨m0, _⟩ := kj.metAt hlt
      clear kj
      have hnew : ∀ B : Bool, (B = false ↔ b = false ∧ j ∈ M) → (B = false ↔ b4 = false ∧ ∀ i, i < j + 1 → i ∈ M) := fun B hB => by
        rw [hB, HBB.out]
        constructor
        · rintro ⟨⟨h1, h2⟩, h3⟩
          refine ⟨h1, fun i hi => ?_⟩
          by_cases e : i = j
          · subst e; exact h3
          · exact h2 i (by omega)
        · rintro ⟨h1, h2⟩
          exact ⟨⟨h1, fun i hi => h2 i (by omega)⟩, h2 j (by omega)⟩
      have HNEW := Lib.hid hnew
      clear hnew
      have hway : b = true ∨ (b = false ∧ j ∈ M) ∨ (b = false ∧ j ∉ M) := by
        cases b <;> by_cases h : j ∈ M <;> simp [h]
      rcases hway with rfl | ⟨rfl, hm⟩ | ⟨rfl, hm⟩
      · have HN := Lib.hid (HNEW.out true ⟨fun e => (by cases e), fun e => (by cases e.1)⟩)
        clear HNEW HBB
        go_wp2
        go_roundw
        case rel => exact ⟨j + 1, true, by go_num, hlt, HKJ.out.setBad true, HBJ.out.trans (HKJ.out.fr (HSB.out _) HBJ.out.size), HN.out⟩
        case measure => simp [intOf]; omega
      · have HN := Lib.hid (HNEW.out false ⟨fun _ => ⟨rfl, hm⟩, fun _ => rfl⟩)
        rw [decide_eq_true hm] at m0
        clear HNEW HBB hm
        go_wp2
        go_roundw
        case rel => exact ⟨j + 1, false, by go_num, hlt, HKJ.out.setBad false, HBJ.out.trans (HKJ.out.fr (HSB.out _) HBJ.out.size), HN.out⟩
        case measure => simp [intOf]; omega
      · have HN := Lib.hid (HNEW.out true ⟨fun e => (by cases e), fun e => absurd e.2 hm⟩)
        rw [decide_eq_false hm] at m0
        clear HNEW HBB hm
        go_wp2
        go_roundw
        case rel => exact ⟨j + 1, true, by go_num, hlt, HKJ.out.setBad true, HBJ.out.trans (HKJ.out.fr (HSB.out _) HBJ.out.size), HN.out⟩
        case measure => simp [intOf]; omega
    · obtain rfl : j = n := by omega
      have hlt' : ¬ ((j : Int) < (j : Int)) := by omega
      obtain ⟨oA, oc, rfl⟩ := own_form kj.own
      clear kj
      have HFIN := Lib.hid (show (rdS nodes root).isSome = !b ∧ ReadR (rdS nodes root) w.heap.size wr (.slice oA out.length oc) L from by
        obtain ⟨h1, h2⟩ := HRS.out
        cases b with
        | false =>
          obtain ⟨h3, h4⟩ := HBB.out.1 rfl
          obtain ⟨t, s, hr, e1, e2, e3⟩ := HF4.out h3
          obtain ⟨h5, h6⟩ := (h2 t s hr).1 fun i hi => by rw [← e1]; exact h4 i (by have := HN.out; omega)
          rw [h5]
          refine ⟨rfl, ?_, by rw [h6]; exact e2⟩
          rw [← e3]
          exact HKJ.out.own
        | true =>
          have hno : rdS nodes root = none := by
            cases hb4 : b4 with
            | true => exact h1 (HT4.out hb4)
            | false =>
              obtain ⟨t, s, hr, e1, e2, e3⟩ := HF4.out hb4
              refine (h2 t s hr).2 fun hall => ?_
              have := HBB.out.2 ⟨hb4, fun i hi => by rw [e1]; exact hall i (by have := HN.out; omega)⟩
              cases this
          rw [hno]
          exact ⟨rfl, trivial⟩)
      obtain ⟨e0, hrr⟩ := HFIN.out
      have HRR := Lib.hid hrr
      have HE := Lib.hid e0
      clear hrr e0 HFIN HRS HKJ HBB HF4 HT4 HK4 HB4 HSB
      go_upto_region 9 with fail
      go_region
      all_goals
        go_wp2
        exact bodyPost_ret (v := .tuple #[.slice oA out.length oc, .int .i64 L, .bool (!b)]) (by simp [results, Try.results29, go_sem]) rfl ⟨HBJ.out.drew, oA, _, oc, L, by rw [HE.out], HRR.out⟩
theorem readR_any (nodes : List Nd) (n c : Nat) (A : Option Addr) (root : Int) (w : World) (hS : RdS w A n nodes) (hRe : Reach nodes) (hW : Wfn nodes) (hr : -9223372036854775808 ≤ root ∧ root ≤ 9223372036854775807) :
    Calls Try.prog 29 #[.agg #[.slice A n c, .int .i64 root]] w fun e w' => Below w.heap.size w w' ∧ ∃ A' m c' L, e = .returned (.tuple #[.slice A' m c', .int .i64 (L : Nat), .bool (rdS nodes root).isSome]) ∧ ReadR (rdS nodes root) w.heap.size w' (.slice A' m c') L := by
  by_cases h0 : nodes = []
  · subst h0
    exact readR_nil n c A root w hS.len
  · exact readR_some nodes n c A root w hS hRe hW hr h0
end Go.Proofs.Ytkpjkglheegmgaa
namespace Go.Proofs.Ytkpjkglheegmgaa
open Go.RowKit
set_option linter.unusedSimpArgs false
set_option linter.unusedVariables false

section
variable (nodes : List Nd) (n c : Nat) (A : Option Addr) (root : Int) (w : World) (hS : RdS w A n nodes) (hRe : Reach nodes) (hW : Wfn nodes) (hr : -9223372036854775808 ≤ root ∧ root ≤ 9223372036854775807)
include hS hRe hW hr
set_option maxRecDepth 100000 in
set_option maxHeartbeats 1000000 in
theorem checkR_any : Calls Try.prog 17 #[.agg #[.slice A n c, .int .i64 root]] w fun e w' => e = .returned (.int .i64 (errR (rdS nodes root))) ∧ Below w.heap.size w w' := by
  have HRD := Lib.hid fun (W : World) (hb : Below w.heap.size w W) => readR_any nodes n c A root W (hS.below hb) hRe hW hr
  clear hS hRe hW hr
  unfold errR
  generalize rdS nodes root = R at *
  obtain ⟨b, hb⟩ : ∃ b, R.isSome = b := ⟨_, rfl⟩
  rw [hb]
  have HB := Lib.hid hb
  clear hb
  cases b
  all_goals
    go_enter Try.func17, Try.ntmps17
    go_wp2_with (first | (go_at_call 29; (with_reducible refine (HRD.out _ (below1 _ _)).mono ?_); rintro e w1 ⟨hb1, A1, m1, c1, L1, rfl, _⟩; rw [HB.out]; have HB1 := Lib.hid hb1; clear hb1))
    go_ret
    exact ⟨rfl, thn (below1 _ _) HB1.out⟩
set_option maxRecDepth 100000 in
set_option maxHeartbeats 1000000 in
theorem pairsR_any (m : Nat) (t : Tr) (hR : rdS nodes root = some (m, t)) : Calls Try.prog 18 #[.agg #[.slice A n c, .int .i64 root]] w fun e w' => ∃ A' c', e = .returned (.slice A' (prs m t).length c') ∧ RdP w' A' (prs m t).length (prs m t) ∧ Below w.heap.size w w' := by
  have HRD := Lib.hid fun (W : World) (hb : Below w.heap.size w W) => readR_any nodes n c A root W (hS.below hb) hRe hW hr
  clear hS hRe hW hr
  rw [hR] at HRD
  clear hR
  go_enter Try.func18, Try.ntmps18
  go_wp2_with (first | (go_at_call 29; (with_reducible refine (HRD.out _ (below1 _ _)).mono ?_); rintro e w1 ⟨hb1, A1, m1, c1, L1, rfl, ho, _⟩; have HB1 := Lib.hid hb1; have HO := Lib.hid ho; clear hb1 ho))
  go_ret
  obtain ⟨A2, c2, e, hp, _⟩ := RdP.of_own HO.out
  rw [e]
  exact ⟨A2, c2, rfl, hp.below (Below.refl _ _), thn (below1 _ _) HB1.out⟩
set_option maxRecDepth 100000 in
set_option maxHeartbeats 1000000 in
theorem depthR_any : Calls Try.prog 12 #[.agg #[.slice A n c, .int .i64 root]] w fun e w' => e = .returned (.tuple #[.int .i64 (depD (rdS nodes root)), .int .i64 (errR (rdS nodes root))]) ∧ Below w.heap.size w w' := by
  have HRD := Lib.hid fun (W : World) (hb : Below w.heap.size w W) => readR_any nodes n c A root W (hS.below hb) hRe hW hr
  clear hS hRe hW hr
  cases hR : rdS nodes root with
  | none =>
    rw [hR] at HRD
    go_enter Try.func12, Try.ntmps12
    go_wp2_with (first | (go_at_call 29; (with_reducible refine (HRD.out _ (below1 _ _)).mono ?_); rintro e w1 ⟨hb1, A1, m1, c1, L1, rfl, _⟩; have HB1 := Lib.hid hb1; simp only [Option.isSome_none]; clear hb1))
    go_ret2
    exact ⟨rfl, thn (below1 _ _) HB1.out⟩
  | some r =>
    obtain ⟨m, t⟩ := r
    rw [hR] at HRD
    generalize hd : depD (some (m, t)) = D at *
    have HD := Lib.hid hd
    clear hd
    go_enter Try.func12, Try.ntmps12
    go_wp2_with (first | (go_at_call 29; (with_reducible refine (HRD.out _ (below1 _ _)).mono ?_); rintro e w1 ⟨hb1, A1, m1, c1, L1, rfl, _, hL⟩; rw [HD.out] at hL; rw [hL]; have HB1 := Lib.hid hb1; simp only [Option.isSome_some]; clear hb1 hL))
    go_ret2
    exact ⟨rfl, thn (below1 _ _) HB1.out⟩
end
theorem till_dec (u : Key) (x : Pr) : Till u x = (u.s.toList.isEmpty || Op.bytesLess x.1.s.toList u.s.toList) := by
  unfold Till
  rw [less_dec]
  congr 1
  rw [Bool.eq_iff_iff, decide_eq_true_iff, List.isEmpty_iff]
  have e : noK.s.toList = [] := by rw [ByteArray.toList_eq]; rfl
  constructor
  · rintro rfl; exact e
  · intro h; exact key_eq.1 (h.trans e.symm)
theorem span_snoc {l : List Pr} {k u : Key} {j : Nat} (h : j < l.length) : spanT (l.take (j + 1)) k u = spanT (l.take j) k u ++ (if (!Op.bytesLess l[j].1.s.toList k.s.toList && (u.s.toList.isEmpty || Op.bytesLess l[j].1.s.toList u.s.toList)) = true then [l[j]] else []) := by
  unfold spanT
  rw [List.take_succ_eq_append_getElem h, List.filter_append, ← till_dec]
  congr 1
  have e : decide (k ≤ l[j].1) = !Op.bytesLess l[j].1.s.toList k.s.toList := by
    rw [less_dec]
    by_cases h1 : l[j].1 < k
    · rw [decide_eq_true h1, decide_eq_false (by grind)]; rfl
    · rw [decide_eq_false h1, decide_eq_true (by grind)]; rfl
  simp only [List.filter_cons, List.filter_nil, e]
set_option maxRecDepth 100000 in
set_option maxHeartbeats 4000000 in
theorem rangeR_any (nodes : List Nd) (n c : Nat) (A : Option Addr) (root : Int) (k u : Key) (w : World) (hS : RdS w A n nodes) (hRe : Reach nodes) (hW : Wfn nodes) (hr : -9223372036854775808 ≤ root ∧ root ≤ 9223372036854775807) :
    Calls Try.prog 10 #[.agg #[.slice A n c, .int .i64 root], .string k.s, .string u.s] w fun e w' => ∃ A' c', e = .returned (.tuple #[.slice A' (rngL (rdS nodes root) k u).length c', .int .i64 (errR (rdS nodes root))]) ∧ RdP w' A' (rngL (rdS nodes root) k u).length (rngL (rdS nodes root) k u) ∧ Below w.heap.size w w' := by
  have HRD := Lib.hid fun (W : World) (hb : Below w.heap.size w W) => readR_any nodes n c A root W (hS.below hb) hRe hW hr
  clear hS hRe hW hr
  cases hR : rdS nodes root with
  | none =>
    rw [hR] at HRD
    go_enter Try.func10, Try.ntmps10
    go_wp2_with (first | (go_at_call 29; (with_reducible refine (HRD.out _ (below1 _ _)).mono ?_); rintro e w1 ⟨hb1, A1, m1, c1, L1, rfl, _⟩; have HB1 := Lib.hid hb1; simp only [Option.isSome_none]; clear hb1))
    go_ret2
    exact ⟨none, 0, rfl, ⟨rfl, by simp [rngL], fun i h => by simp [rngL] at h⟩, thn (below1 _ _) HB1.out⟩
  | some r =>
    obtain ⟨m, t⟩ := r
    rw [hR] at HRD
    have HPL := Lib.hid (rdS_ok hR).2.1
    clear hR
    show Calls _ _ _ _ fun e w' => ∃ A' c', e = .returned (.tuple #[.slice A' (spanT (prs m t) k u).length c', .int .i64 0]) ∧ RdP w' A' (spanT (prs m t) k u).length (spanT (prs m t) k u) ∧ Below w.heap.size w w'
    have HRD2 := Lib.hid fun (W : World) (hb : Below w.heap.size w W) => (HRD.out W hb).mono (R' := fun e w' => Below W.heap.size W w' ∧ ∃ A' c' L, e = .returned (.tuple #[.slice A' (prs m t).length c', .int .i64 (L : Nat), .bool true]) ∧ RdP w' A' (prs m t).length (prs m t)) (by
      rintro e w' ⟨hb1, A1, m1, c1, L1, rfl, ho, _⟩
      obtain ⟨A2, c2, e, hp, _⟩ := RdP.of_own ho
      rw [e]
      exact ⟨hb1, A2, c2, L1, rfl, hp⟩)
    clear HRD
    generalize prs m t = l at *
    go_enter Try.func10, Try.ntmps10
    go_upto_region 2 with (first | (go_at_call 29; (with_reducible refine (HRD2.out _ (below1 _ _)).mono ?_); rintro e w1 ⟨hb1, A1, c1, L1, rfl, hp⟩; have HB1 := Lib.hid (thn (below1 _ _) hb1); have HP := Lib.hid hp; clear hb1 hp))
    clear HRD2
    go_wp2
    go_loopw [11, 12] (fun o i wr => ∃ (j : Nat) (xs : List Pr), i = .int .i64 j ∧ j ≤ l.length ∧ wr.ownsRow w1.heap.size 47 2 o xs.length (pcells xs) ∧ Below w1.heap.size w1 wr ∧ xs = spanT (l.take j) k u) (fun _ i _ => l.length - (intOf i).toNat)
    case atStart => exact ⟨0, [], rfl, by omega, World.ownsRow_nil _ _ _ _, Below.refl _ _, rfl⟩
    case round =>
      obtain ⟨j, xs, rfl, hj, ho, hB, hT⟩ := hrel
      obtain ⟨oA, oc, rfl⟩ := own_form ho
      have hxl : xs.length ≤ 2048 := by
        have h1 : (spanT (l.take j) k u).length ≤ (l.take j).length := List.length_filter_le _ _
        rw [← hT, List.length_take] at h1
        have := HPL.out
        omega
      by_cases hlt : j < l.length
      · have hlt' : (j : Int) < (l.length : Int) := by omega
        have hone := span_snoc (k := k) (u := u) hlt
        rw [← hT] at hone
        obtain ⟨ad, rfl, a0, a1⟩ := (HP.out.below hB).at_ j hlt
        have hwj : IntKind.i64.wrap ((j : Int) + 1) = (j : Int) + 1 := IntWalk.i64_in _ (by have := HPL.out; omega)
        generalize l[j] = p at *
        obtain ⟨pk, pv⟩ := p
        simp only at *
        have HO := Lib.hid ho
        have HB := Lib.hid hB
        have HONE := Lib.hid hone
        clear ho hone hT
        have hway : Op.bytesLess pk.s.toList k.s.toList = true ∨ (Op.bytesLess pk.s.toList k.s.toList = false ∧ u.s.toList.isEmpty = false ∧ Op.bytesLess pk.s.toList u.s.toList = false) ∨ (Op.bytesLess pk.s.toList k.s.toList = false ∧ u.s.toList.isEmpty = true) ∨ (Op.bytesLess pk.s.toList k.s.toList = false ∧ u.s.toList.isEmpty = false ∧ Op.bytesLess pk.s.toList u.s.toList = true) := by
          cases Op.bytesLess pk.s.toList k.s.toList <;> cases u.s.toList.isEmpty <;> cases Op.bytesLess pk.s.toList u.s.toList <;> simp
        rcases hway with h1 | ⟨h1, h2, h3⟩ | ⟨h1, h2⟩ | ⟨h1, h2, h3⟩
        · have HN := Lib.hid (show xs = spanT (l.take (j + 1)) k u by have := HONE.out; simpa [h1] using this.symm)
          clear HONE hB
          go_wp2
          go_roundw
          case rel => exact ⟨j + 1, xs, by go_num, hlt, HO.out, HB.out, HN.out⟩
          case measure => simp [intOf]; omega
        · have HN := Lib.hid (show xs = spanT (l.take (j + 1)) k u by have := HONE.out; simpa [h1, h2, h3] using this.symm)
          clear HONE hB
          go_wp2
          go_roundw
          case rel => exact ⟨j + 1, xs, by go_num, hlt, HO.out, HB.out, HN.out⟩
          case measure => simp [intOf]; omega
        · have HN := Lib.hid (show xs ++ [(pk, pv)] = spanT (l.take (j + 1)) k u by have := HONE.out; simpa [h1, h2] using this.symm)
          obtain ⟨A1', c1', w2, hrun, ho1, hb1⟩ := push_pair wr w1.heap.size _ xs (pk, pv) HO.out HB.out.size (by omega)
          have HR1 := Lib.hid hrun
          have HO1 := Lib.hid ho1
          have HB1' := Lib.hid (HB.out.trans hb1)
          clear HONE hrun ho1 hb1 HO hxl hB
          go_wp2_with (at_builtin; refine Lib.wpList_append_run _ rfl _ _ _ _ rfl _ _ rfl rfl _ _ HR1.out ?_)
          go_roundw
          case rel => exact ⟨j + 1, _, by go_num, hlt, HO1.out, HB1'.out, HN.out⟩
          case measure => simp [intOf]; omega
        · have HN := Lib.hid (show xs ++ [(pk, pv)] = spanT (l.take (j + 1)) k u by have := HONE.out; simpa [h1, h2, h3] using this.symm)
          obtain ⟨A1', c1', w2, hrun, ho1, hb1⟩ := push_pair wr w1.heap.size _ xs (pk, pv) HO.out HB.out.size (by omega)
          have HR1 := Lib.hid hrun
          have HO1 := Lib.hid ho1
          have HB1' := Lib.hid (HB.out.trans hb1)
          clear HONE hrun ho1 hb1 HO hxl hB
          go_wp2_with (at_builtin; refine Lib.wpList_append_run _ rfl _ _ _ _ rfl _ _ rfl rfl _ _ HR1.out ?_)
          go_roundw
          case rel => exact ⟨j + 1, _, by go_num, hlt, HO1.out, HB1'.out, HN.out⟩
          case measure => simp [intOf]; omega
      · obtain rfl : j = l.length := by omega
        rw [List.take_length] at hT
        have HO := Lib.hid (RdP.of_own ho)
        have HB := Lib.hid hB
        have HT := Lib.hid hT
        clear ho hB hT
        go_wp2
        go_ret2
        obtain ⟨A2, c2, e, hp, _⟩ := HO.out
        rw [← HT.out]
        rw [e]
        exact ⟨A2, c2, rfl, hp, HB1.out.trans (HB.out.mono HB1.out.size)⟩
end Go.Proofs.Ytkpjkglheegmgaa
