/- How a tree lies in memory: each node in a block of its own. Conditions: none. -/
import Derived.Test.YtkpjkglheegmgaaQVc
import Derived.Maps.OwnSet
import Derived.Maps.Views
import Derived.Test.YtkpjkglheegmgaaQa
/- What a reader asks of one node: the walks of must, part, holds, isFormed, meet and leaf. Conditions: a state that is read in memory, a reader in a block of its own. -/
namespace Go.Proofs.Ytkpjkglheegmgaa
open Go.RowKit Go.Maps Go.ChangeMaps Go.MapKept Go.WideShapes
set_option linter.unusedSimpArgs false
set_option linter.unusedVariables false

def ints (l : List Int) : List Value := l.map fun i => .int .i64 i
theorem ints_len (l : List Int) : (ints l).length = l.length := by simp [ints]
theorem ints_at {l : List Int} {i : Nat} (h : i < l.length) : (ints l)[i]? = some (.int .i64 l[i]) := by simp [ints, h]
/-- The three cells at p are a node's. -/
structure RdX (w : World) (p : Addr) (x : Nd) (h : Hd) : Prop where
  c0 : w.cell? p = some (.slice h.kA x.ks.length h.kc)
  c1 : w.cell? ⟨p.block, p.off + 1, none⟩ = some (.slice h.vA x.vs.length h.vc)
  c2 : w.cell? ⟨p.block, p.off + 2, none⟩ = some (.slice h.cA x.kids.length h.cc)
  k : Rd w h.kA x.ks.length h.kc (strs x.ks)
  v : Rd w h.vA x.vs.length h.vc (strs x.vs)
  c : Rd w h.cA x.kids.length h.cc (ints x.kids)
theorem RdX.keep {w w' : World} {p : Addr} {x : Nd} {h : Hd} (r : RdX w p x h) (hk : ∀ p v, w.cell? p = some v → w'.cell? p = some v) : RdX w' p x h :=
  ⟨hk _ _ r.c0, hk _ _ r.c1, hk _ _ r.c2, r.k.keep hk, r.v.keep hk, r.c.keep hk⟩
/-- The slice at A reads as a state's nodes. -/
structure RdS (w : World) (A : Option Addr) (n : Nat) (nodes : List Nd) : Prop where
  len : n = nodes.length
  max : n ≤ 9223372036854775807
  at_ : ∀ (i : Nat) (x : Nd), nodes[i]? = some x → ∃ ad h, A = some ad ∧ RdX w (ad.add (i * 3)) x h
theorem RdS.keep {w w' : World} {A : Option Addr} {n : Nat} {nodes : List Nd} (r : RdS w A n nodes) (hk : ∀ p v, w.cell? p = some v → w'.cell? p = some v) : RdS w' A n nodes :=
  ⟨r.len, r.max, fun i x hx => by
    obtain ⟨ad, h, e, hr⟩ := r.at_ i x hx
    exact ⟨ad, h, e, hr.keep hk⟩⟩
theorem RdS.below {w w' : World} {A : Option Addr} {n : Nat} {nodes : List Nd} (r : RdS w A n nodes) (hb : Below w.heap.size w w') : RdS w' A n nodes := r.keep fun _ _ hp => cell_keep hp hb
theorem RdX.below {w w' : World} {p : Addr} {x : Nd} {h : Hd} (r : RdX w p x h) (hb : Below w.heap.size w w') : RdX w' p x h := r.keep fun _ _ hp => cell_keep hp hb

/-- The panic of a state that may not be. -/
def dies : Ending := .panicked [{ v := .iface 30 (.int .i64 9), recovered := false }]
theorem must_yes (w : World) : Calls Try.prog 57 #[.bool true] w fun e w' => e = .returned (.tuple #[]) ∧ w = w' := by
  go_enter Try.func57, Try.ntmps57
  go_wp2
  go_end0
  exact ⟨rfl, rfl⟩
theorem must_no (w : World) : Calls Try.prog 57 #[.bool false] w fun e w' => e = .panicked [{ v := .iface 30 (.int .i64 9), recovered := false }] ∧ w = w' := by
  go_enter Try.func57, Try.ntmps57
  go_wp2
  exact ⟨rfl, rfl, rfl⟩

/-- A span's value. -/
def bs (b : Bd) : ByteArray := match b with
  | none => ⟨#[]⟩
  | some k => k.s
@[reducible] def spanV (lo hi : Bd) : Value := .agg #[.string (bs lo), .string (bs hi), .bool hi.isSome]
theorem lst_last (lo : Bd) : ∀ (ks : List Key) (i : Nat) (h : i < ks.length), lst lo (ks.take (i + 1)) = some ks[i]
  | k :: ks, 0, _ => by simp [lst]
  | k :: ks, i + 1, h => by
    rw [List.take_succ_cons, lst]
    exact lst_last (some k) ks i (by simpa using h)
theorem hed_drop (hi : Bd) {ks : List Key} {i : Nat} (h : i < ks.length) : hed hi (ks.drop i) = some ks[i] := by
  rw [List.drop_eq_getElem_cons h]; rfl
theorem hed_end (hi : Bd) {ks : List Key} {i : Nat} (h : ks.length ≤ i) : hed hi (ks.drop i) = hi := by
  rw [List.drop_of_length_le h]; rfl
/-- What a node's i-th kid has of the node's span. -/
def partV (lo hi : Bd) (ks : List Key) (i : Nat) : Value := spanV (lst lo (ks.take i)) (hed hi (ks.drop i))
theorem partV_eq {lo hi a b : Bd} {ks : List Key} {i : Nat} (h1 : lst lo (ks.take i) = a) (h2 : hed hi (ks.drop i) = b) : partV lo hi ks i = spanV a b := by unfold partV; rw [h1, h2]
set_option maxHeartbeats 1000000 in
theorem part_any (lo hi : Bd) (A : Option Addr) (n c : Nat) (ks : List Key) (i : Nat) (w : World) (hn : n = ks.length) (hr : Rd w A n c (strs ks)) (hi' : i ≤ n) (h6 : n ≤ 1000000) :
    Calls Try.prog 73 #[spanV lo hi, .slice A n c, .int .i64 i] w fun e w' => e = .returned (partV lo hi ks i) ∧ Below w.heap.size w w' := by
  subst hn
  have HR := Lib.hid hr
  clear hr
  have hz : ∀ (a b : Bd), Below w.heap.size w w := fun _ _ => Below.refl _ _
  cases i with
  | zero =>
    have HL : Hid (lst lo (ks.take 0) = lo) := Lib.hid (by simp [lst])
    by_cases hk : 0 < ks.length
    · obtain ⟨ad, rfl, q0⟩ := HR.out.at_ (strs_at hk)
      rw [add_zero] at q0
      have HD := Lib.hid (hed_drop hi hk)
      have hk' : (0 : Int) < (ks.length : Int) := by omega
      have hq := cell_lt q0
      generalize ks[0] = k0 at q0 HD
      go_enter Try.func73, Try.ntmps73
      go_wp2
      exact bodyPost_ret (v := .agg #[.string (bs lo), .string k0.s, .bool true]) (by simp [results, Try.results73, go_sem]) rfl ⟨by rw [partV_eq HL.out HD.out]; rfl, by repeat (first | exact Below.refl _ _ | (refine Below.setCell ?_ (by first | omega | (simp; done) | (simp; omega)) _) | (refine Below.alloc ?_ (by first | omega | (simp; done) | (simp; omega)) _))⟩
    · have HD := Lib.hid (hed_end hi (ks := ks) (i := 0) (by omega))
      have hk0 : ks.length = 0 := by omega
      have hk' : ¬ (0 : Int) < (ks.length : Int) := by omega
      have HK0 := Lib.hid hk0
      clear hk0
      go_enter Try.func73, Try.ntmps73
      go_wp2
      exact bodyPost_ret (v := .agg #[.string (bs lo), .string (bs hi), .bool hi.isSome]) (by simp [results, Try.results73, go_sem]) rfl ⟨by rw [partV_eq HL.out HD.out], by repeat (first | exact Below.refl _ _ | (refine Below.setCell ?_ (by first | omega | (simp; done) | (simp; omega)) _) | (refine Below.alloc ?_ (by first | omega | (simp; done) | (simp; omega)) _))⟩
  | succ i =>
    have hlt : i < ks.length := by omega
    obtain ⟨ad, rfl, q0⟩ := HR.out.at_ (strs_at hlt)
    have HL := Lib.hid (lst_last lo ks i hlt)
    have hq := cell_lt q0
    have hlt' : (i : Int) < (ks.length : Int) := by omega
    have e1 : ((i + 1 : Nat) : Int) = (i : Int) + 1 := by omega
    rw [e1]
    have e2 : (i : Int) + 1 - 1 = i := by omega
    generalize ks[i] = k0 at q0 HL
    by_cases hk : i + 1 < ks.length
    · obtain ⟨ad', e, q1⟩ := HR.out.at_ (strs_at hk)
      injection e with e
      subst e
      have HD := Lib.hid (hed_drop hi hk)
      rw [add_ne (by omega)] at q1
      have hq1 := cell_lt q1
      have hk' : (i : Int) + 1 < (ks.length : Int) := by omega
      generalize ks[i + 1] = k1 at q1 HD
      have hx1 : ((i : Int) + 1).toNat = i + 1 := by omega
      go_enter Try.func73, Try.ntmps73
      go_wp2
      exact bodyPost_ret (v := .agg #[.string k0.s, .string k1.s, .bool true]) (by simp [results, Try.results73, go_sem]) rfl ⟨by rw [partV_eq HL.out HD.out]; rfl, by repeat (first | exact Below.refl _ _ | (refine Below.setCell ?_ (by first | omega | (simp; done) | (simp; omega)) _) | (refine Below.alloc ?_ (by first | omega | (simp; done) | (simp; omega)) _))⟩
    · have HD := Lib.hid (hed_end hi (ks := ks) (i := i + 1) (by omega))
      have hk' : ¬ (i : Int) + 1 < (ks.length : Int) := by omega
      go_enter Try.func73, Try.ntmps73
      go_wp2
      exact bodyPost_ret (v := .agg #[.string k0.s, .string (bs hi), .bool hi.isSome]) (by simp [results, Try.results73, go_sem]) rfl ⟨by rw [partV_eq HL.out HD.out]; rfl, by repeat (first | exact Below.refl _ _ | (refine Below.setCell ?_ (by first | omega | (simp; done) | (simp; omega)) _) | (refine Below.alloc ?_ (by first | omega | (simp; done) | (simp; omega)) _))⟩

/-- holds: whether keys rise within a span. -/
theorem holds_snoc {lo hi : Bd} {ks : List Key} {j : Nat} (hj : j < ks.length) (h : Holds lo hi (ks.take j)) : Holds lo hi (ks.take (j + 1)) ↔ Ge lo ks[j] ∧ Bel ks[j] hi ∧ ∀ h0 : 0 < j, ks[j - 1] < ks[j] := by
  rw [List.take_succ_eq_append_getElem hj]
  constructor
  · rintro ⟨h1, h2⟩
    obtain ⟨h3, h4⟩ := h2 ks[j] (List.mem_append_right _ (List.mem_singleton.2 rfl))
    refine ⟨h3, h4, fun h0 => ?_⟩
    obtain ⟨_, _, h5⟩ := asc_append.1 h1
    refine h5 _ ?_ _ (by simp)
    rw [List.mem_iff_getElem]
    exact ⟨j - 1, by simp; omega, by rw [List.getElem_take]⟩
  · rintro ⟨h3, h4, h5⟩
    refine ⟨asc_append.2 ⟨h.1, List.pairwise_singleton _ _, fun x hx y hy => ?_⟩, fun x hx => ?_⟩
    · simp at hy
      subst hy
      obtain ⟨i, hi, rfl⟩ := List.getElem_of_mem hx
      simp at hi
      have h6 := h5 (by omega)
      rw [List.getElem_take]
      rcases Nat.lt_or_ge i (j - 1) with h7 | h7
      · have h8 := h.1
        have := List.pairwise_iff_getElem.1 h8 i (j - 1) (by simp; omega) (by simp; omega) h7
        rw [List.getElem_take, List.getElem_take] at this
        grind
      · have : i = j - 1 := by omega
        subst this
        exact h6
    · rcases List.mem_append.1 hx with hx | hx
      · exact h.2 x hx
      · simp at hx
        subst hx
        exact ⟨h3, h4⟩
theorem holds_take {lo hi : Bd} {ks : List Key} (h : Holds lo hi ks) (j : Nat) : Holds lo hi (ks.take j) := ⟨h.1.take j, fun x hx => h.2 x (List.mem_of_mem_take hx)⟩
theorem ge_less (lo : Bd) (k : Key) : Op.bytesLess k.s.toList (bs lo).toList = false ↔ Ge lo k := by
  cases lo with
  | none =>
    have e : (bs none).toList = [] := by rw [ByteArray.toList_eq]; rfl
    rw [e]
    refine ⟨fun _ => ge_none k, fun _ => ?_⟩
    cases k.s.toList <;> rfl
  | some l =>
    rw [ge_some]
    show Op.bytesLess k.s.toList l.s.toList = false ↔ _
    rw [less_dec]
    simp
    grind
open Classical in
noncomputable def holdsB (lo hi : Bd) (ks : List Key) : Bool := decide (Holds lo hi ks)
theorem holdsB_yes {lo hi : Bd} {ks : List Key} (h : Holds lo hi ks) : holdsB lo hi ks = true := by unfold holdsB; simp [h]
theorem holdsB_no {lo hi : Bd} {ks : List Key} (h : ¬ Holds lo hi ks) : holdsB lo hi ks = false := by unfold holdsB; simp [h]
set_option maxRecDepth 100000 in
set_option maxHeartbeats 4000000 in
theorem holds_any (lo hi : Bd) (A : Option Addr) (n c : Nat) (ks : List Key) (w : World) (hn : n = ks.length) (hr : Rd w A n c (strs ks)) (h6 : n ≤ 9223372036854775807) :
    Calls Try.prog 71 #[spanV lo hi, .slice A n c] w fun e w' => e = .returned (.bool (holdsB lo hi ks)) ∧ Below w.heap.size w w' := by
  subst hn
  have HR := Lib.hid hr
  have H6 := Lib.hid h6
  clear hr h6
  have hX : (w.alloc (.cells #[.string (bs lo), .string (bs hi), .bool hi.isSome] 111)).cell? ⟨w.heap.size, 0, none⟩ = some (.string (bs lo)) ∧ (w.alloc (.cells #[.string (bs lo), .string (bs hi), .bool hi.isSome] 111)).cell? ⟨w.heap.size, 1, none⟩ = some (.string (bs hi)) ∧ (w.alloc (.cells #[.string (bs lo), .string (bs hi), .bool hi.isSome] 111)).cell? ⟨w.heap.size, 2, none⟩ = some (.bool hi.isSome) :=
    ⟨World.cell?_alloc_mark w _ _ (0, 0) 0, World.cell?_alloc_mark w _ _ (0, 0) 1, World.cell?_alloc_mark w _ _ (0, 0) 2⟩
  have HW := Lib.hid (HR.out.below (below1 w (.cells #[.string (bs lo), .string (bs hi), .bool hi.isSome] 111)))
  have HB := Lib.hid (below1 w (.cells #[.string (bs lo), .string (bs hi), .bool hi.isSome] 111))
  go_enter Try.func71, Try.ntmps71
  go_wp2
  generalize w.alloc (.cells #[.string (bs lo), .string (bs hi), .bool hi.isSome] 111) = W at hX HW HB ⊢
  obtain ⟨x0, x1, x2⟩ := hX
  go_loop [5, 6, 9] (fun _ _ i => ∃ j : Nat, i = .int .i64 j ∧ j ≤ ks.length ∧ Holds lo hi (ks.take j)) (fun _ _ i => ks.length - (intOf i).toNat)
  case atStart => exact ⟨0, rfl, by omega, by simp; exact ⟨Asc.nil, fun k hk => by simp at hk⟩⟩
  case round =>
    obtain ⟨j, rfl, hj, hH⟩ := hrel
    have HH := Lib.hid hH
    clear hH
    have h6 := H6.out
    by_cases hlt : j < ks.length
    · obtain ⟨ad, rfl, q0⟩ := HW.out.at_ (strs_at hlt)
      have HS := Lib.hid (holds_snoc hlt HH.out)
      have hlt' : (j : Int) < (ks.length : Int) := by omega
      have HNO : Hid (¬ Holds lo hi (ks.take (j + 1)) → false = holdsB lo hi ks) := Lib.hid fun h => (holdsB_no fun h2 => h (holds_take h2 _)).symm
      have HG := Lib.hid (ge_less lo ks[j])
      have hq := cell_lt q0
      cases hA : Op.bytesLess ks[j].s.toList (bs lo).toList
      · have HA := Lib.hid (HG.out.1 hA)
        -- the upper bound
        have hup : ∃ u, (hi.isSome && !Op.bytesLess ks[j].s.toList (bs hi).toList) = u ∧ (u = true ↔ ¬ Bel ks[j] hi) := by
          refine ⟨_, rfl, ?_⟩
          cases hi with
          | none => simp [bel_none]
          | some h =>
            rw [bel_some]
            show (true && !Op.bytesLess ks[j].s.toList h.s.toList) = true ↔ _
            rw [less_dec]; simp
        have HUP := Lib.hid hup
        clear hup
        generalize hbh : bs hi = bh at x1 HUP
        generalize hih : hi.isSome = ih at x2 HUP
        have HBH := Lib.hid (And.intro hbh hih)
        clear hbh hih
        have HUN : Hid (∀ u : Bool, (ih && !Op.bytesLess ks[j].s.toList bh.toList) = u → (u = false → Bel ks[j] hi) ∧ (u = true → ¬ Bel ks[j] hi)) := Lib.hid fun u hu => by
          obtain ⟨u', h1, h2⟩ := HUP.out
          rw [hu] at h1
          subst h1
          refine ⟨fun h => ?_, fun h => h2.1 h⟩
          by_cases hb : Bel ks[j] hi
          · exact hb
          · rw [h2.2 hb] at h; cases h
        clear HUP HG HBH
        by_cases h0 : j = 0
        · subst h0
          rw [add_zero] at q0 hq
          have HY : Hid (Bel ks[0] hi → Holds lo hi (ks.take (0 + 1))) := Lib.hid fun h => HS.out.2 ⟨HA.out, h, fun h => by omega⟩
          have HN : Hid (¬ Bel ks[0] hi → ¬ Holds lo hi (ks.take (0 + 1))) := Lib.hid fun h h2 => h (HS.out.1 h2).2.1
          clear HS
          generalize ks[0] = k0 at *
          cases ih
          · go_wp2
            go_round
            case rel => exact ⟨1, rfl, by omega, HY.out ((HUN.out _ rfl).1 rfl)⟩
            case measure => simp [intOf]; omega
          · cases hB : Op.bytesLess k0.s.toList bh.toList
            · have HB1 := Lib.hid hB
              go_wp2
              go_ret
              exact ⟨ret_bool (HNO.out (HN.out ((HUN.out true (by rw [HB1.out]; rfl)).2 rfl))), HB.out⟩
            · have HB1 := Lib.hid hB
              go_wp2
              go_round
              case rel => exact ⟨1, rfl, by omega, HY.out ((HUN.out false (by rw [HB1.out]; rfl)).1 rfl)⟩
              case measure => simp [intOf]; omega
        · obtain ⟨p, rfl⟩ : ∃ p, j = p + 1 := ⟨j - 1, by omega⟩
          obtain ⟨ad', e, q1⟩ := HW.out.at_ (strs_at (l := ks) (i := p) (by omega))
          injection e with e
          subst e
          rw [add_ne (by omega)] at q0 hq
          have hq1 := cell_lt q1
          have e1 : ((p + 1 : Nat) : Int) = (p : Int) + 1 := by omega
          rw [e1] at hlt' ⊢
          have e2 : (p : Int) + 1 - 1 = p := by omega
          have e3 : (0 : Int) < (p : Int) + 1 := by omega
          have e4 : (p : Int) < (ks.length : Int) := by omega
          have hx1 : ((p : Int) + 1).toNat = p + 1 := by omega
          have HY : Hid (Bel ks[p + 1] hi → ks[p] < ks[p + 1] → Holds lo hi (ks.take (p + 1 + 1))) := Lib.hid fun h h3 => HS.out.2 ⟨HA.out, h, fun _ => h3⟩
          have HN : Hid (¬ Bel ks[p + 1] hi ∨ ¬ ks[p] < ks[p + 1] → ¬ Holds lo hi (ks.take (p + 1 + 1))) := Lib.hid fun h h2 => by
            have := HS.out.1 h2
            rcases h with h | h
            · exact h this.2.1
            · exact h (this.2.2 (by omega))
          have HL : Hid ((Op.bytesLess ks[p + 1].s.toList ks[p].s.toList || ks[p + 1].s.toList == ks[p].s.toList) = !decide (ks[p] < ks[p + 1])) := Lib.hid (by
            rw [less_dec, Bool.eq_iff_iff]; simp [key_eq]; grind)
          clear HS
          generalize ks[p + 1] = k1 at *
          generalize ks[p] = k0 at *
          cases ih
          · have HU1 := Lib.hid ((HUN.out _ rfl).1 rfl)
            cases hC1 : Op.bytesLess k1.s.toList k0.s.toList
            · cases hC2 : (k1.s.toList == k0.s.toList)
              · have HC := Lib.hid (And.intro hC1 hC2)
                go_wp2
                go_round
                case rel => exact ⟨p + 1 + 1, by go_num, by omega, HY.out (HU1.out) (by
                  have h := HL.out
                  rw [HC.out.1, HC.out.2] at h
                  simpa using h)⟩
                case measure => simp [intOf]; omega
              · have HC := Lib.hid (And.intro hC1 hC2)
                go_wp2
                go_ret
                exact ⟨ret_bool (HNO.out (HN.out (.inr (by
                  have h := HL.out
                  rw [HC.out.1, HC.out.2] at h
                  simpa using h)))), HB.out⟩
            · have HC := Lib.hid hC1
              go_wp2
              go_ret
              exact ⟨ret_bool (HNO.out (HN.out (.inr (by
                have h := HL.out
                rw [HC.out] at h
                simpa using h)))), HB.out⟩
          · cases hB : Op.bytesLess k1.s.toList bh.toList
            · have HB1 := Lib.hid hB
              go_wp2
              go_ret
              exact ⟨ret_bool (HNO.out (HN.out (.inl ((HUN.out true (by rw [HB1.out]; rfl)).2 rfl)))), HB.out⟩
            · have HU1 := Lib.hid ((HUN.out false (by rw [hB]; rfl)).1 rfl)
              cases hC1 : Op.bytesLess k1.s.toList k0.s.toList
              · cases hC2 : (k1.s.toList == k0.s.toList)
                · have HC := Lib.hid (And.intro hC1 hC2)
                  go_wp2
                  go_round
                  case rel => exact ⟨p + 1 + 1, by go_num, by omega, HY.out (HU1.out) (by
                    have h := HL.out
                    rw [HC.out.1, HC.out.2] at h
                    simpa using h)⟩
                  case measure => simp [intOf]; omega
                · have HC := Lib.hid (And.intro hC1 hC2)
                  go_wp2
                  go_ret
                  exact ⟨ret_bool (HNO.out (HN.out (.inr (by
                    have h := HL.out
                    rw [HC.out.1, HC.out.2] at h
                    simpa using h)))), HB.out⟩
              · have HC := Lib.hid hC1
                go_wp2
                go_ret
                exact ⟨ret_bool (HNO.out (HN.out (.inr (by
                  have h := HL.out
                  rw [HC.out] at h
                  simpa using h)))), HB.out⟩
      · have HA := Lib.hid hA
        go_wp2
        go_ret
        exact ⟨ret_bool (HNO.out fun h => by
          have := (HS.out.1 h).1
          rw [← HG.out, HA.out] at this
          cases this), HB.out⟩
    · obtain rfl : j = ks.length := by omega
      go_wp2
      go_ret
      have h := HH.out
      rw [List.take_length] at h
      exact ⟨ret_bool (holdsB_yes h).symm, HB.out⟩
end Go.Proofs.Ytkpjkglheegmgaa
/- What a reader asks of one node: the walks of isFormed, meet and leaf. Conditions: a state that is read in memory, a reader in a block of its own. -/
namespace Go.Proofs.Ytkpjkglheegmgaa
open Go.RowKit Go.Maps Go.ChangeMaps Go.MapKept Go.WideShapes
set_option linter.unusedSimpArgs false
set_option linter.unusedVariables false

/-- The numbers that were met, as a map. -/
def mapD : List Nat → DataW Unit
  | [] => .map []
  | i :: M => (mapD M).put (.int .i64 i) (.agg [])
theorem mapD_tidy : ∀ M : List Nat, Maps.Tidy (mapD M)
  | [] => Maps.tidy_empty
  | i :: M => Maps.Tidy.put (k := .int .i64 i) (mapD_tidy M) trivial _
theorem mapD_has : ∀ (M : List Nat) (i : Nat), Maps.has (mapD M) (.int .i64 i) = decide (i ∈ M)
  | [], i => by simp [mapD, Maps.has]
  | j :: M, i => by
    rw [mapD]
    by_cases h : i = j
    · subst h
      rw [Maps.has_put_same (k := .int .i64 i) (mapD_tidy M).isMap trivial]; simp
    · rw [Maps.has_put_other (by intro e; injection e with _ e; omega), mapD_has M i]; simp [h]
theorem mapD_size : ∀ (M : List Nat), M.Nodup → Maps.size (mapD M) = M.length
  | [], _ => rfl
  | j :: M, h => by
    obtain ⟨h1, h2⟩ := List.nodup_cons.1 h
    rw [mapD, Maps.size_put (mapD_tidy M), mapD_has, mapD_size M h2]
    simp [h1]
theorem keyedI : Keyed Try.prog 3 := int_keyed Try.underlying3
theorem zeroU (w : World) : (zeroValue 130).run Try.prog w = .ok (.agg #[]) w := by kernel_rfl
/-- Block b is the set of the numbers M. -/
abbrev IsSet (w : World) (b : Nat) (M : List Nat) : Prop := w.ownsMap Try.prog 3 (unitElem (H := Unit)) b M.length (mapD M)
/-- All but the reader's own two blocks is as it was. -/
structure Rg (gr gm : Nat) (w w' : World) : Prop where
  os : w'.os = w.os
  tape : w'.tape = w.tape
  output : w'.output = w.output
  size : w.heap.size ≤ w'.heap.size
  block : ∀ k, k < w.heap.size → k ≠ gr → k ≠ gm → w'.heap[k]? = w.heap[k]?
section
variable {gr gm : Nat} {a b c w w' : World}
theorem Rg.refl : Rg gr gm w w := ⟨rfl, rfl, rfl, Nat.le_refl _, fun _ _ _ _ => rfl⟩
theorem Rg.trans (h : Rg gr gm a b) (k : Rg gr gm b c) : Rg gr gm a c :=
  ⟨k.os.trans h.os, k.tape.trans h.tape, k.output.trans h.output, Nat.le_trans h.size k.size, fun i h1 h2 h3 => (k.block i (Nat.lt_of_lt_of_le h1 h.size) h2 h3).trans (h.block i h1 h2 h3)⟩
theorem Rg.of_below (h : Below a.heap.size a b) : Rg gr gm a b := ⟨h.os, h.tape, h.output, h.size, fun k hk _ _ => h.block k hk⟩
theorem Rg.of_grown {r : Nat} (h : a.grownBy b (some r)) (hr : r = gr ∨ r = gm) : Rg gr gm a b := ⟨h.os, h.tape, h.output, h.size, fun k hk h1 h2 => h.block k hk (fun e => by injection e with e; rcases hr with rfl | rfl <;> omega)⟩
theorem Rg.below {B : Nat} (h : Rg gr gm a b) (h1 : B ≤ gr) (h2 : B ≤ gm) (hB : B ≤ a.heap.size) : Below B a b := ⟨h.os, h.tape, h.output, h.size, fun k hk => h.block k (by omega) (by omega) (by omega)⟩
theorem grown_setCell (w : World) (g o : Nat) (v : Value) : w.grownBy (w.setCell ⟨g, o, none⟩ v) (some g) :=
  ⟨rfl, rfl, rfl, by simp [World.setCell], fun k _ hk => Below.heap_setCell _ _ _ _ (fun e => hk (by simp [e]))⟩
end
/-- Block gr is a reader of a state, that has met s. -/
structure Rdr (w : World) (gr gm : Nat) (A : Option Addr) (n c : Nat) (root : Int) (s : Sr) : Prop where
  blk : w.heap[gr]? = some (.cells #[.slice A n c, .int .i64 root, .map (some gm), .int .i64 s.p, .int .i64 s.L] 90 (0, 0))
  met : IsSet w gm s.M
section
variable {w w' : World} {gr gm n c : Nat} {A : Option Addr} {root : Int} {s : Sr}
theorem Rdr.lt (r : Rdr w gr gm A n c root s) : gr < w.heap.size ∧ gm < w.heap.size := by
  obtain ⟨es, cl, h, _⟩ := r.met
  exact ⟨heap_lt r.blk, heap_lt h⟩
theorem Rdr.ne (r : Rdr w gr gm A n c root s) : gr ≠ gm := by
  obtain ⟨es, cl, h, _⟩ := r.met
  rintro rfl
  have h2 := r.blk
  rw [h] at h2
  cases h2
theorem Rdr.cells (r : Rdr w gr gm A n c root s) : w.cell? ⟨gr, 0, none⟩ = some (.slice A n c) ∧ w.cell? ⟨gr, 1, none⟩ = some (.int .i64 root) ∧ w.cell? ⟨gr, 2, none⟩ = some (.map (some gm)) ∧ w.cell? ⟨gr, 3, none⟩ = some (.int .i64 s.p) ∧ w.cell? ⟨gr, 4, none⟩ = some (.int .i64 s.L) := by
  have := r.blk
  refine ⟨?_, ?_, ?_, ?_, ?_⟩ <;> simp [World.cell?, this]
theorem Rdr.free (r : Rdr w gr gm A n c root s) (o : Nat) : w.frozen? ⟨gr, o, none⟩ = false := by
  have := r.blk
  simp [World.frozen?, this]
theorem Rdr.below (r : Rdr w gr gm A n c root s) (hb : Below w.heap.size w w') : Rdr w' gr gm A n c root s :=
  ⟨(hb.block _ r.lt.1).trans r.blk, r.met.kept (row := none) ⟨hb.os, hb.tape, hb.output, hb.size, fun k hk _ => hb.block k hk⟩ (by simp)⟩
/-- Behind a store of the map. -/
theorem Rdr.meet (r : Rdr w gr gm A n c root s) {i : Nat} (hm : IsSet w' gm (i :: s.M)) (hg : w.grownBy w' (some gm)) : Rdr w' gr gm A n c root ⟨i :: s.M, s.p, s.L⟩ :=
  ⟨(hg.block _ r.lt.1 (fun e => r.ne (by injection e))).trans r.blk, hm⟩
theorem Rdr.setp (r : Rdr w gr gm A n c root s) (p : Nat) : Rdr (w.setCell ⟨gr, 3, none⟩ (.int .i64 p)) gr gm A n c root ⟨s.M, p, s.L⟩ := by
  refine ⟨?_, r.met.kept (grown_setCell w gr 3 _) (by intro e; injection e with e; exact r.ne e.symm)⟩
  rw [heap_setCell_same w gr 3 _ _ _ r.blk]
  simp
theorem Rdr.setL (r : Rdr w gr gm A n c root s) (L : Nat) : Rdr (w.setCell ⟨gr, 4, none⟩ (.int .i64 L)) gr gm A n c root ⟨s.M, s.p, L⟩ := by
  refine ⟨?_, r.met.kept (grown_setCell w gr 4 _) (by intro e; injection e with e; exact r.ne e.symm)⟩
  rw [heap_setCell_same w gr 4 _ _ _ r.blk]
  simp
end
def formB (q : Nat) (nk nv nc : Nat) : Bool := decide (q ≤ nk) && (decide (nk ≤ 4) && (if nc = 0 then decide (nv = nk) else decide (nv = 0) && decide (nc = nk + 1)))
theorem formB_iff {deep : Nat} {x : Nd} : formB (least deep) x.ks.length x.vs.length x.kids.length = true ↔ Formed deep x := by
  unfold formB Formed
  cases x.kids <;> simp
set_option maxHeartbeats 2000000 in
theorem isFormed_any (gr gm n c i : Nat) (A : Option Addr) (root : Int) (s : Sr) (nodes : List Nd) (x : Nd) (w : World) (hR : Rdr w gr gm A n c root s) (hS : RdS w A n nodes) (hx : nodes[i]? = some x) :
    Calls Try.prog 70 #[ptr gr, .int .i64 i] w fun e w' => e = .returned (.bool (formB (if (i : Int) = root then 1 else 2) x.ks.length x.vs.length x.kids.length)) ∧ Below w.heap.size w w' := by
  obtain ⟨ad, h, rfl, hX⟩ := hS.at_ i x hx
  obtain ⟨r0, r1, r2, r3, r4⟩ := hR.cells
  obtain ⟨x0, x1, x2, hk, hv, hc⟩ := hX
  have hi : i < n := by rw [hS.len]; exact (List.getElem?_eq_some_iff.1 hx).1
  have hin : (i : Int) < (n : Int) := by omega
  have hmx := hS.max
  have hxl := cell_lt x0
  have hgr := hR.lt.1
  have mk := hk.le
  have mk2 := hk.cap
  have mv := hv.le
  have mv2 := hv.cap
  have mc := hc.le
  have mc2 := hc.cap
  rw [add_block] at hxl
  clear hR hS hk hv hc hx
  generalize x.ks.length = nk at *
  generalize x.vs.length = nv at *
  generalize x.kids.length = nc at *
  have hB : Below w.heap.size w (w.alloc (.cells #[.slice h.kA nk h.kc, .slice h.vA nv h.vc, .slice h.cA nc h.cc] 66)) := below1 _ _
  have HB := Lib.hid hB
  clear hB
  cases hE : ((i : Int) == root)
  · rw [if_neg (by simpa using hE)]
    by_cases h1 : nk < 2
    · have hf := Lib.hid (show formB 2 nk nv nc = false by unfold formB; rw [decide_eq_false (by omega)]; rfl)
      have h1' : (nk : Int) < 2 := by omega
      have d1 : decide ((nk : Int) < 2) = true := decide_eq_true h1'
      go_enter Try.func70, Try.ntmps70
      go_wp2
      go_ret
      exact ⟨ret_bool hf.out.symm, HB.out⟩
    have h1' : ¬ (nk : Int) < 2 := by omega
    have d1 : decide ((nk : Int) < 2) = false := decide_eq_false h1'
    by_cases h2 : 4 < nk
    · have hf := Lib.hid (show formB 2 nk nv nc = false by unfold formB; rw [decide_eq_false (p := nk ≤ 4) (by omega)]; simp)
      have h2' : (4 : Int) < (nk : Int) := by omega
      have d2 : decide ((4 : Int) < (nk : Int)) = true := decide_eq_true h2'
      go_enter Try.func70, Try.ntmps70
      go_wp2
      go_ret
      exact ⟨ret_bool hf.out.symm, HB.out⟩
    have h2' : ¬ (4 : Int) < (nk : Int) := by omega
    have d2 : decide ((4 : Int) < (nk : Int)) = false := decide_eq_false h2'
    by_cases h3 : nc = 0
    · have hf := Lib.hid (show formB 2 nk nv nc = ((nv : Int) == (nk : Int)) by unfold formB; rw [decide_eq_true (by omega), decide_eq_true (p := nk ≤ 4) (by omega), if_pos h3, Bool.eq_iff_iff]; simp; omega)
      have h3' : ((nc : Int) == 0) = true := by simp [h3]
      clear h3
      go_enter Try.func70, Try.ntmps70
      go_wp2
      go_ret
      exact ⟨ret_bool hf.out.symm, HB.out⟩
    have h3' : ((nc : Int) == 0) = false := by simp [h3]
    by_cases h4 : nv = 0
    · have hf := Lib.hid (show formB 2 nk nv nc = ((nc : Int) == (nk : Int) + 1) by unfold formB; rw [decide_eq_true (by omega), decide_eq_true (p := nk ≤ 4) (by omega), if_neg h3, decide_eq_true h4, Bool.eq_iff_iff]; simp; omega)
      have h4' : ((nv : Int) == 0) = true := by simp [h4]
      clear h3 h4
      go_enter Try.func70, Try.ntmps70
      go_wp2
      go_ret
      exact ⟨ret_bool hf.out.symm, HB.out⟩
    have hf := Lib.hid (show formB 2 nk nv nc = false by unfold formB; rw [if_neg h3, decide_eq_false h4]; simp)
    have h4' : ((nv : Int) == 0) = false := by simp [h4]
    clear h3 h4
    go_enter Try.func70, Try.ntmps70
    go_wp2
    go_ret
    exact ⟨ret_bool hf.out.symm, HB.out⟩
  · rw [if_pos (by simpa using hE)]
    by_cases h1 : nk < 1
    · have hf := Lib.hid (show formB 1 nk nv nc = false by unfold formB; rw [decide_eq_false (by omega)]; rfl)
      have h1' : (nk : Int) < 1 := by omega
      have d1 : decide ((nk : Int) < 1) = true := decide_eq_true h1'
      go_enter Try.func70, Try.ntmps70
      go_wp2
      go_ret
      exact ⟨ret_bool hf.out.symm, HB.out⟩
    have h1' : ¬ (nk : Int) < 1 := by omega
    have d1 : decide ((nk : Int) < 1) = false := decide_eq_false h1'
    by_cases h2 : 4 < nk
    · have hf := Lib.hid (show formB 1 nk nv nc = false by unfold formB; rw [decide_eq_false (p := nk ≤ 4) (by omega)]; simp)
      have h2' : (4 : Int) < (nk : Int) := by omega
      have d2 : decide ((4 : Int) < (nk : Int)) = true := decide_eq_true h2'
      go_enter Try.func70, Try.ntmps70
      go_wp2
      go_ret
      exact ⟨ret_bool hf.out.symm, HB.out⟩
    have h2' : ¬ (4 : Int) < (nk : Int) := by omega
    have d2 : decide ((4 : Int) < (nk : Int)) = false := decide_eq_false h2'
    by_cases h3 : nc = 0
    · have hf := Lib.hid (show formB 1 nk nv nc = ((nv : Int) == (nk : Int)) by unfold formB; rw [decide_eq_true (by omega), decide_eq_true (p := nk ≤ 4) (by omega), if_pos h3, Bool.eq_iff_iff]; simp; omega)
      have h3' : ((nc : Int) == 0) = true := by simp [h3]
      clear h3
      go_enter Try.func70, Try.ntmps70
      go_wp2
      go_ret
      exact ⟨ret_bool hf.out.symm, HB.out⟩
    have h3' : ((nc : Int) == 0) = false := by simp [h3]
    by_cases h4 : nv = 0
    · have hf := Lib.hid (show formB 1 nk nv nc = ((nc : Int) == (nk : Int) + 1) by unfold formB; rw [decide_eq_true (by omega), decide_eq_true (p := nk ≤ 4) (by omega), if_neg h3, decide_eq_true h4, Bool.eq_iff_iff]; simp; omega)
      have h4' : ((nv : Int) == 0) = true := by simp [h4]
      clear h3 h4
      go_enter Try.func70, Try.ntmps70
      go_wp2
      go_ret
      exact ⟨ret_bool hf.out.symm, HB.out⟩
    have hf := Lib.hid (show formB 1 nk nv nc = false by unfold formB; rw [if_neg h3, decide_eq_false h4]; simp)
    have h4' : ((nv : Int) == 0) = false := by simp [h4]
    clear h3 h4
    go_enter Try.func70, Try.ntmps70
    go_wp2
    go_ret
    exact ⟨ret_bool hf.out.symm, HB.out⟩

end Go.Proofs.Ytkpjkglheegmgaa
/- What a reader makes of one node: the walks of meet and leaf. Conditions: a state that is read in memory, a reader in a block of its own. -/
namespace Go.Proofs.Ytkpjkglheegmgaa
open Go.RowKit Go.Maps Go.ChangeMaps Go.MapKept Go.WideShapes
set_option linter.unusedSimpArgs false
set_option linter.unusedVariables false

theorem dies_eq : dies = .panicked [{ v := .iface 30 (.int .i64 9), recovered := false }] := rfl
theorem Rdr.other {w : World} {gr gm n c : Nat} {A : Option Addr} {root : Int} {s : Sr} (r : Rdr w gr gm A n c root s) {p : Addr} (h1 : p.block ≠ gr) (h2 : p.block ≠ gm) (v : Value) : Rdr (w.setCell p v) gr gm A n c root s :=
  ⟨(Below.heap_setCell w p v gr (fun e => h1 e.symm)).trans r.blk, r.met.kept (row := some p.block) ⟨rfl, rfl, rfl, by simp [World.setCell], fun k _ hk => Below.heap_setCell _ _ _ _ (fun e => hk (by simp [e]))⟩ (by intro e; injection e with e; exact h2 e.symm)⟩
theorem Rg.set {gr gm : Nat} {a b : World} (h : Rg gr gm a b) {p : Addr} (hp : a.heap.size ≤ p.block) (v : Value) : Rg gr gm a (b.setCell p v) :=
  ⟨h.os, h.tape, h.output, by simp [World.setCell]; exact h.size, fun k h1 h2 h3 => (Below.heap_setCell b p v k (by omega)).trans (h.block k h1 h2 h3)⟩
theorem keep_set {w w' : World} {b : Nat} {M : List Nat} (hs : IsSet w b M) (hg : w.grownBy w' (some b)) (p : Addr) (v : Value) (hp : w.cell? p = some v) : w'.cell? p = some v ∧ w'.frozen? p = w.frozen? p := by
  obtain ⟨es, clock, hm, _⟩ := hs
  have hne : p.block ≠ b := fun e => by
    unfold World.cell? at hp
    rw [e, hm] at hp
    cases hp
  have hb := hg.block p.block (cell_lt hp) (fun e => hne (by injection e))
  exact ⟨(World.cell?_of_block hb).trans hp, World.frozen?_of_block hb⟩
set_option maxRecDepth 100000 in
set_option maxHeartbeats 2000000 in
theorem meet_out (gr gm n c : Nat) (A : Option Addr) (root : Int) (s : Sr) (a : Int) (w : World) (hR : Rdr w gr gm A n c root s) (hn : n ≤ 9223372036854775807) (ha : a < 0 ∨ (n : Int) ≤ a) :
    Calls Try.prog 69 #[ptr gr, .int .i64 a] w fun e w' => e = .panicked [{ v := .iface 30 (.int .i64 9), recovered := false }] ∧ Rg gr gm w w' := by
  obtain ⟨r0, r1, r2, r3, r4⟩ := hR.cells
  have hgr := hR.lt.1
  have HN := Lib.hid hn
  clear hR hn
  have hG : Rg gr gm w (w.alloc (.cells #[.slice none 0 0, .slice none 0 0, .slice none 0 0] 66)) := Rg.of_below (below1 _ _)
  have HG := Lib.hid hG
  clear hG
  by_cases h1 : a < 0
  · have h1' : ¬ 0 ≤ a := by omega
    have d1 : decide (0 ≤ a) = false := decide_eq_false h1'
    go_enter Try.func69, Try.ntmps69
    go_wp2_with (go_at_call 57; refine (must_no _).mono ?_; rintro e w1 ⟨rfl, rfl⟩)
    exact ⟨rfl, rfl, HG.out⟩
  · have h1' : 0 ≤ a := by omega
    have h2' : ¬ a < (n : Int) := by omega
    have d1 : decide (0 ≤ a) = true := decide_eq_true h1'
    have d2 : decide (a < (n : Int)) = false := decide_eq_false h2'
    have h6 := HN.out
    go_enter Try.func69, Try.ntmps69
    go_wp2_with (go_at_call 57; refine (must_no _).mono ?_; rintro e w1 ⟨rfl, rfl⟩)
    exact ⟨rfl, rfl, HG.out⟩
set_option maxRecDepth 100000 in
set_option maxHeartbeats 2000000 in
theorem meet_again (gr gm n c i : Nat) (A : Option Addr) (root : Int) (s : Sr) (w : World) (hR : Rdr w gr gm A n c root s) (hn : n ≤ 9223372036854775807) (hi : i < n) (hm : i ∈ s.M) :
    Calls Try.prog 69 #[ptr gr, .int .i64 i] w fun e w' => e = .panicked [{ v := .iface 30 (.int .i64 9), recovered := false }] ∧ Rg gr gm w w' := by
  obtain ⟨r0, r1, r2, r3, r4⟩ := hR.cells
  have hgr := hR.lt.1
  have d1 : decide (0 ≤ (i : Int)) = true := decide_eq_true (by omega)
  have d2 : decide ((i : Int) < (n : Int)) = true := decide_eq_true (by omega)
  have hin : (i : Int) < (n : Int) := by omega
  have HS := Lib.hid (World.ownsMap.alloc hR.met (.cells #[.slice none 0 0, .slice none 0 0, .slice none 0 0] 66))
  have hkey : keyOf Try.prog 3 (.int .i64 i) = some (.int .i64 i) := keyOf_int_mk Try.underlying3 (WalkArith.wf_i64 ⟨by omega, by omega⟩)
  have hhas := mapD_has s.M i
  rw [decide_eq_true hm] at hhas
  have HG := Lib.hid (Rg.of_below (gr := gr) (gm := gm) ((below1 w (.cells #[.slice none 0 0, .slice none 0 0, .slice none 0 0] 66)).alloc (by simp) (.cells #[] 130)))
  have HR := Lib.hid hR
  have HN := Lib.hid hn
  clear hR hn hm
  have h6 := HN.out
  go_enter Try.func69, Try.ntmps69
  go_wp2_with (first
    | (at_lookup; refine wpList_lookup_own_unit _ rfl _ _ 88 rfl 3 130 keyedI Try.underlying88 (zeroU _) gm _ _ rfl HS.out _ _ rfl hkey ?_; rw [hhas])
    | (go_at_call 57; (with_reducible refine (must_yes _).mono ?_); rintro e w1 ⟨rfl, rfl⟩)
    | (go_at_call 57; (with_reducible refine (must_no _).mono ?_); rintro e w1 ⟨rfl, rfl⟩))
  exact ⟨rfl, rfl, HG.out⟩
/-- Where a reading stands: the state lies below the reader. -/
structure Base (w0 : World) (gr gm : Nat) (A : Option Addr) (n : Nat) (nodes : List Nd) (w : World) : Prop where
  st : RdS w0 A n nodes
  bel : Below w0.heap.size w0 w
  gr : w0.heap.size ≤ gr
  gm : w0.heap.size ≤ gm
theorem Base.to {w0 w w' : World} {gr gm n : Nat} {A : Option Addr} {nodes : List Nd} (h : Base w0 gr gm A n nodes w) (hg : Rg gr gm w w') : Base w0 gr gm A n nodes w' := ⟨h.st, h.bel.trans (hg.below h.gr h.gm h.bel.size), h.gr, h.gm⟩
theorem Base.rd {w0 w : World} {gr gm n : Nat} {A : Option Addr} {nodes : List Nd} (h : Base w0 gr gm A n nodes w) : RdS w A n nodes := h.st.below h.bel
theorem three_of {w : World} {g : Nat} {a b c : Value} {T : TypeId} (h : w.heap[g]? = some (.cells #[a, b, c] T (0, 0))) : w.cell? ⟨g, 0, none⟩ = some a ∧ w.cell? ⟨g, 1, none⟩ = some b ∧ w.cell? ⟨g, 2, none⟩ = some c ∧ w.frozen? ⟨g, 0, none⟩ = false ∧ w.frozen? ⟨g, 1, none⟩ = false ∧ w.frozen? ⟨g, 2, none⟩ = false := by
  refine ⟨?_, ?_, ?_, ?_, ?_, ?_⟩ <;> simp [World.cell?, World.frozen?, h]
/-- A node that was not met before. -/
def MeetPost (w0 : World) (x : Nd) (i gr gm : Nat) (A : Option Addr) (n c : Nat) (root : Int) (s : Sr) (w : World) (e : Ending) (w' : World) : Prop :=
  ∃ h : Hd, e = .returned (.agg (h.cells x.ks.length x.vs.length x.kids.length)) ∧ Rd w0 h.kA x.ks.length h.kc (strs x.ks) ∧ Rd w0 h.vA x.vs.length h.vc (strs x.vs) ∧ Rd w0 h.cA x.kids.length h.cc (ints x.kids) ∧ Rdr w' gr gm A n c root ⟨i :: s.M, s.p, s.L⟩ ∧ Rg gr gm w w'
set_option maxRecDepth 100000 in
set_option maxHeartbeats 4000000 in
theorem meet_new (gr gm n c i : Nat) (A : Option Addr) (root : Int) (s : Sr) (nodes : List Nd) (x : Nd) (w w0 : World) (hR : Rdr w gr gm A n c root s) (hS : Base w0 gr gm A n nodes w) (hx : nodes[i]? = some x) (hm : i ∉ s.M) (hM : s.M.length ≤ 1000000) :
    Calls Try.prog 69 #[ptr gr, .int .i64 i] w (MeetPost w0 x i gr gm A n c root s w) := by
  obtain ⟨ad, h, rfl, hX0⟩ := hS.st.at_ i x hx
  have hX := hX0.below hS.bel
  obtain ⟨r0, r1, r2, r3, r4⟩ := hR.cells
  obtain ⟨x0, x1, x2, _, _, _⟩ := hX
  obtain ⟨_, _, _, hk, hv, hc⟩ := hX0
  have hi : i < n := by rw [hS.st.len]; exact (List.getElem?_eq_some_iff.1 hx).1
  have hn := hS.st.max
  have hgr := hR.lt.1
  have d1 : decide (0 ≤ (i : Int)) = true := decide_eq_true (by omega)
  have d2 : decide ((i : Int) < (n : Int)) = true := decide_eq_true (by omega)
  have hin : (i : Int) < (n : Int) := by omega
  have hxl := cell_lt x0
  rw [add_block] at hxl
  have HS := Lib.hid (World.ownsMap.alloc hR.met (.cells #[.slice none 0 0, .slice none 0 0, .slice none 0 0] 66))
  have hkey : keyOf Try.prog 3 (.int .i64 i) = some (.int .i64 i) := keyOf_int_mk Try.underlying3 (WalkArith.wf_i64 ⟨by omega, by omega⟩)
  have hhas := mapD_has s.M i
  rw [decide_eq_false hm] at hhas
  have hB2 := (below1 w (.cells #[.slice none 0 0, .slice none 0 0, .slice none 0 0] 66)).alloc (by simp) (.cells #[] 130)
  have HB := Lib.hid hB2
  have HR2 := Lib.hid (hR.below hB2)
  have HP := Lib.hid (fun (w' : World) (hr : Rdr w' gr gm (some ad) n c root ⟨i :: s.M, s.p, s.L⟩) (hg : Rg gr gm w w') => (show MeetPost w0 x i gr gm (some ad) n c root s w (.returned (.agg (h.cells x.ks.length x.vs.length x.kids.length))) w' from ⟨h, rfl, hk, hv, hc, hr, hg⟩))
  have HN := Lib.hid hn
  have HRL := Lib.hid hR.lt.2
  have q0 := cell_keep r0 hB2
  have p0 := cell_keep x0 hB2
  have p1 := cell_keep x1 hB2
  have p2 := cell_keep x2 hB2
  have hY : ((w.alloc (.cells #[.slice none 0 0, .slice none 0 0, .slice none 0 0] 66)).alloc (.cells #[] 130)).heap[w.heap.size]? = some (.cells #[.slice none 0 0, .slice none 0 0, .slice none 0 0] 66 (0, 0)) :=
    (Below.heap_alloc _ _ _ (by simp)).trans (heap_alloc_new w _)
  have HY := Lib.hid hY
  have HQ := Lib.hid (And.intro q0 (And.intro p0 (And.intro p1 p2)))
  clear hY q0 p0 p1 p2
  clear hR hn hm hS hx hk hv hc hB2
  generalize x.ks.length = nk at *
  generalize x.vs.length = nv at *
  generalize x.kids.length = nc at *
  have h6 := HN.out
  go_enter Try.func69, Try.ntmps69
  go_wp2_with (first
    | (at_lookup; refine wpList_lookup_own_unit _ rfl _ _ 88 rfl 3 130 keyedI Try.underlying88 (zeroU _) gm _ _ rfl HS.out _ _ rfl hkey ?_; rw [hhas])
    | (go_at_call 57; (with_reducible refine (must_yes _).mono ?_); rintro e w1 ⟨rfl, rfl⟩)
    | (at_mapUpdate; refine wpList_mapUpdate_own _ rfl _ _ _ 88 rfl 3 130 keyedI Try.underlying88 (unitElem (H := Unit)) gm _ _ rfl HR2.out.met (by unfold maxLen; omega) _ _ _ rfl rfl hkey _ [] unitElem_mk ?_; intro w2 hown2 hgrow2; have HO2 := Lib.hid hown2; have HG2 := Lib.hid hgrow2; clear hown2 hgrow2; have q0 := (keep_set HR2.out.met HG2.out _ _ HQ.out.1).1; have p0 := (keep_set HR2.out.met HG2.out _ _ HQ.out.2.1).1; have p1 := (keep_set HR2.out.met HG2.out _ _ HQ.out.2.2.1).1; have p2 := (keep_set HR2.out.met HG2.out _ _ HQ.out.2.2.2).1; have HY2 := Lib.hid ((HG2.out.block w.heap.size (by simp; omega) (fun e => by injection e with e; have := HR2.out.lt.2; have := HRL.out; omega)).trans HY.out); obtain ⟨y0, y1, y2, f0, f1, f2⟩ := three_of HY2.out; have hgr2 := cell_lt q0; have hxl2 := cell_lt p0; rw [add_block] at hxl2; have hw2 := heap_lt HY2.out))
  have R3 := HR2.out.meet HO2.out HG2.out
  have G3 := (Rg.of_below (gr := gr) (gm := gm) HB.out).trans (Rg.of_grown HG2.out (.inr rfl))
  have hzw : w.heap.size ≠ gr ∧ w.heap.size ≠ gm := ⟨by omega, by have := HRL.out; omega⟩
  refine bodyPost_ret (v := .agg #[.slice h.kA nk h.kc, .slice h.vA nv h.vc, .slice h.cA nc h.cc]) (by simp [results, Try.results69, go_sem, y0, y1, y2]) rfl (HP.out _ ?_ ?_)
  · exact ((R3.other (p := ⟨w.heap.size, 0, none⟩) hzw.1 hzw.2 _).other (p := ⟨w.heap.size, 1, none⟩) hzw.1 hzw.2 _).other (p := ⟨w.heap.size, 2, none⟩) hzw.1 hzw.2 _
  · exact ((G3.set (p := ⟨w.heap.size, 0, none⟩) (Nat.le_refl _) _).set (p := ⟨w.heap.size, 1, none⟩) (Nat.le_refl _) _).set (p := ⟨w.heap.size, 2, none⟩) (Nat.le_refl _) _

set_option maxRecDepth 100000 in
set_option maxHeartbeats 4000000 in
theorem leaf_ok (gr gm n c k deep : Nat) (A : Option Addr) (root : Int) (s : Sr) (w : World) (hR : Rdr w gr gm A n c root s) (hL : s.L = 0 ∨ s.L = deep) (hp : s.p + k ≤ 2048) (hd : 1 ≤ deep) (hd2 : deep ≤ 1000000) :
    Calls Try.prog 72 #[ptr gr, .int .i64 k, .int .i64 deep] w fun e w' => e = .returned (.tuple #[]) ∧ Rdr w' gr gm A n c root ⟨s.M, s.p + k, deep⟩ ∧ Rg gr gm w w' := by
  obtain ⟨r0, r1, r2, r3, r4⟩ := hR.cells
  have f3 := hR.free 3
  have f4 := hR.free 4
  have HR := Lib.hid hR
  clear hR
  have e1 : ((s.p + k : Nat) : Int) = (s.p : Int) + k := by omega
  rcases hL with hL | hL
  · have HL := Lib.hid hL
    have e2 : ((s.L : Int) == 0) = true := by simp [hL]
    have d1 : decide ((s.p : Int) + k ≤ 2048) = true := decide_eq_true (by omega)
    clear hL
    have R2 := Lib.hid ((HR.out.setL deep).setp (s.p + k))
    have G2 := Lib.hid (((Rg.refl (gr := gr) (gm := gm) (w := w)).trans (Rg.of_grown (grown_setCell w gr 4 (.int .i64 deep)) (.inl rfl))).trans (Rg.of_grown (grown_setCell _ gr 3 (.int .i64 ((s.p + k : Nat) : Int))) (.inl rfl)))
    rw [e1] at R2 G2
    go_enter Try.func72, Try.ntmps72
    go_wp2_with (go_at_call 57; (with_reducible refine (must_yes _).mono ?_); rintro e w1 ⟨rfl, rfl⟩)
    go_end0
    exact ⟨rfl, R2.out, G2.out⟩
  · have e2 : ((s.L : Int) == 0) = false := by simp; omega
    have e3 : ((s.L : Int) == (deep : Int)) = true := by simp [hL]
    have d1 : decide ((s.p : Int) + k ≤ 2048) = true := decide_eq_true (by omega)
    have R2 := Lib.hid (HR.out.setp (s.p + k))
    have G2 := Lib.hid ((Rg.refl (gr := gr) (gm := gm) (w := w)).trans (Rg.of_grown (grown_setCell _ gr 3 (.int .i64 ((s.p + k : Nat) : Int))) (.inl rfl)))
    rw [e1] at R2 G2
    have HL := Lib.hid hL
    clear hL
    go_enter Try.func72, Try.ntmps72
    go_wp2_with (go_at_call 57; (with_reducible refine (must_yes _).mono ?_); rintro e w1 ⟨rfl, rfl⟩)
    go_end0
    exact ⟨rfl, by rw [← HL.out]; exact R2.out, G2.out⟩
set_option maxRecDepth 100000 in
set_option maxHeartbeats 4000000 in
theorem leaf_bad (gr gm n c k deep : Nat) (A : Option Addr) (root : Int) (s : Sr) (w : World) (hR : Rdr w gr gm A n c root s) (hL : (s.L ≠ 0 ∧ s.L ≠ deep) ∨ 2048 < s.p + k) (hk : k ≤ 1000000) (hp : s.p ≤ 1000000) (hd : 1 ≤ deep) (hd2 : deep ≤ 1000000) :
    Calls Try.prog 72 #[ptr gr, .int .i64 k, .int .i64 deep] w fun e w' => e = .panicked [{ v := .iface 30 (.int .i64 9), recovered := false }] ∧ Rg gr gm w w' := by
  obtain ⟨r0, r1, r2, r3, r4⟩ := hR.cells
  have f3 := hR.free 3
  have f4 := hR.free 4
  clear hR
  have e1 : ((s.p + k : Nat) : Int) = (s.p : Int) + k := by omega
  have G1 := Lib.hid ((Rg.refl (gr := gr) (gm := gm) (w := w)).trans (Rg.of_grown (grown_setCell _ gr 3 (.int .i64 ((s.p : Int) + k))) (.inl rfl)))
  have G2 := Lib.hid (((Rg.refl (gr := gr) (gm := gm) (w := w)).trans (Rg.of_grown (grown_setCell w gr 4 (.int .i64 deep)) (.inl rfl))).trans (Rg.of_grown (grown_setCell _ gr 3 (.int .i64 ((s.p : Int) + k))) (.inl rfl)))
  by_cases h0 : s.L = 0
  · have e2 : ((s.L : Int) == 0) = true := by simp [h0]
    have d1 : decide ((s.p : Int) + k ≤ 2048) = false := decide_eq_false (by omega)
    clear h0 hL
    go_enter Try.func72, Try.ntmps72
    go_wp2_with (go_at_call 57; (with_reducible refine (must_no _).mono ?_); rintro e w1 ⟨rfl, rfl⟩)
    exact ⟨rfl, rfl, G2.out⟩
  · have e2 : ((s.L : Int) == 0) = false := by simp; omega
    by_cases h1 : s.L = deep
    · have e3 : ((s.L : Int) == (deep : Int)) = true := by simp [h1]
      have d1 : decide ((s.p : Int) + k ≤ 2048) = false := decide_eq_false (by omega)
      clear h0 h1 hL
      go_enter Try.func72, Try.ntmps72
      go_wp2_with (go_at_call 57; (with_reducible refine (must_no _).mono ?_); rintro e w1 ⟨rfl, rfl⟩)
      exact ⟨rfl, rfl, G1.out⟩
    · have e3 : ((s.L : Int) == (deep : Int)) = false := by simp; omega
      clear h0 h1 hL
      go_enter Try.func72, Try.ntmps72
      go_wp2_with (go_at_call 57; (with_reducible refine (must_no _).mono ?_); rintro e w1 ⟨rfl, rfl⟩)
      exact ⟨rfl, rfl, G1.out⟩
end Go.Proofs.Ytkpjkglheegmgaa
namespace Go.Proofs.Ytkpjkglheegmgaa
open Go.RowKit
set_option linter.unusedSimpArgs false
set_option linter.unusedVariables false

/-- Block g is the root of the tree t, whose leaves stand n below it; its nodes' blocks are F. -/
def RdN : Nat → World → Nat → Tr → List Nat → Prop
  | 0, w, g, t, F => F = [g] ∧ t.cs = [] ∧ ∃ h, RdB w g t [] h
  | n + 1, w, g, t, F => ∃ (gs : List Nat) (Fs : List (List Nat)) (h : Hd), F = g :: Fs.flatten ∧ t.cs ≠ [] ∧ RdB w g t gs h ∧ Fs.length = t.cs.length ∧
      ∀ (i : Nat) (g' : Nat) (c : Tr) (f : List Nat), gs[i]? = some g' → t.cs[i]? = some c → Fs[i]? = some f → RdN n w g' c f
theorem RdN.keep : ∀ {n : Nat} {w w' : World} {g : Nat} {t : Tr} {F : List Nat}, RdN n w g t F → Kv w w' → (∀ b ∈ F, w'.heap[b]? = w.heap[b]?) → RdN n w' g t F
  | 0, w, w', g, t, F, ⟨hF, hc, h, hb⟩, hk, hh => ⟨hF, hc, h, hb.keep hk (hh g (by rw [hF]; simp))⟩
  | n + 1, w, w', g, t, F, ⟨gs, Fs, h, hF, hc, hb, hl, hr⟩, hk, hh => ⟨gs, Fs, h, hF, hc, hb.keep hk (hh g (by rw [hF]; simp)), hl, fun i g' c f h1 h2 h3 =>
      RdN.keep (hr i g' c f h1 h2 h3) hk (fun b hb => hh b (by rw [hF]; simp only [List.mem_cons, List.mem_flatten]; exact .inr ⟨f, List.mem_of_getElem? h3, hb⟩))⟩
theorem RdN.head : ∀ {n : Nat} {w : World} {g : Nat} {t : Tr} {F : List Nat}, RdN n w g t F → g ∈ F
  | 0, _, g, _, F, h => by rw [h.1]; simp
  | n + 1, _, g, _, F, ⟨_, _, _, hF, _⟩ => by rw [hF]; simp
theorem RdN.node : ∀ {n : Nat} {w : World} {g : Nat} {t : Tr} {F : List Nat}, RdN n w g t F → ∃ gs h, RdB w g t gs h
  | 0, _, _, _, _, ⟨_, _, h, hb⟩ => ⟨_, h, hb⟩
  | n + 1, _, _, _, _, ⟨gs, _, h, _, _, hb, _⟩ => ⟨gs, h, hb⟩
/-- A node's block: three slices. -/
def IsBr (w : World) (b : Nat) : Prop := ∃ (A1 A2 A3 : Option Addr) (n1 n2 n3 c1 c2 c3 : Nat), w.heap[b]? = some (.cells #[.slice A1 n1 c1, .slice A2 n2 c2, .slice A3 n3 c3] 99 (0, 0))
theorem RdN.br : ∀ {n : Nat} {w : World} {g : Nat} {t : Tr} {F : List Nat}, RdN n w g t F → ∀ b ∈ F, IsBr w b
  | 0, w, g, t, F, ⟨hF, _, h, hb⟩, b, hm => by
    rw [hF] at hm
    simp at hm
    subst hm
    exact ⟨_, _, _, _, _, _, _, _, _, hb.blk⟩
  | n + 1, w, g, t, F, ⟨gs, Fs, h, hF, hc, hb, hl, hr⟩, b, hm => by
    rw [hF] at hm
    simp only [List.mem_cons, List.mem_flatten] at hm
    rcases hm with rfl | ⟨f, hf, hm⟩
    · exact ⟨_, _, _, _, _, _, _, _, _, hb.blk⟩
    · obtain ⟨i, hi, rfl⟩ := List.getElem_of_mem hf
      have hi2 : i < t.cs.length := by omega
      have hi3 : i < gs.length := by rw [hb.n]; exact hi2
      exact RdN.br (hr i _ _ _ (List.getElem?_eq_getElem hi3) (List.getElem?_eq_getElem hi2) (List.getElem?_eq_getElem hi)) b hm
theorem RdN.lt {n : Nat} {w : World} {g : Nat} {t : Tr} {F : List Nat} (h : RdN n w g t F) : ∀ b ∈ F, b < w.heap.size := fun b hb => by
  obtain ⟨_, _, _, _, _, _, _, _, _, h⟩ := h.br b hb
  exact heap_lt h
theorem RdN.below {n : Nat} {w w' : World} {g : Nat} {t : Tr} {F : List Nat} (h : RdN n w g t F) (hb : Below w.heap.size w w') : RdN n w' g t F :=
  h.keep (Kv.of_below hb) fun b hm => hb.block b (h.lt b hm)
theorem cell_in {w : World} {b : Nat} {cs : Array Value} {T : TypeId} {m : Nat × Nat} (h : w.heap[b]? = some (.cells cs T m)) {p : Addr} {v : Value} (e : p.block = b) (hp : w.cell? p = some v) : ∃ i : Nat, cs[i]? = some v := by
  unfold World.cell? at hp
  rw [e, h] at hp
  simp only at hp
  split at hp
  · cases hp
  · exact ⟨p.off, hp⟩
/-- What is firm is no part of a node's block. -/
theorem IsBr.soft {w : World} {b : Nat} (h : IsBr w b) {p : Addr} {v : Value} (e : p.block = b) (hp : w.cell? p = some v) : firm v = false := by
  obtain ⟨A1, A2, A3, n1, n2, n3, c1, c2, c3, h⟩ := h
  obtain ⟨i, hi⟩ := cell_in h e hp
  match i, hi with
  | 0, hv => simp at hv; subst hv; rfl
  | 1, hv => simp at hv; subst hv; rfl
  | 2, hv => simp at hv; subst hv; rfl
  | _ + 3, hv => simp at hv
/-- What is firm is no part of a reader's blocks. -/
theorem Rg.kv {gr gm n c : Nat} {A : Option Addr} {root : Int} {s : Sr} {w w' : World} (h : Rg gr gm w w') (r : Rdr w gr gm A n c root s) : Kv w w' := fun p v hp hf => by
  obtain ⟨es, cl, hm, _⟩ := r.met
  have h1 : p.block ≠ gm := fun e => by
    unfold World.cell? at hp
    rw [e, hm] at hp
    cases hp
  have h2 : p.block ≠ gr := fun e => by
    obtain ⟨i, hi⟩ := cell_in r.blk e hp
    match i, hi with
    | 0, hv => simp at hv; subst hv; cases hf
    | 1, hv => simp at hv; subst hv; cases hf
    | 2, hv => simp at hv; subst hv; cases hf
    | 3, hv => simp at hv; subst hv; cases hf
    | 4, hv => simp at hv; subst hv; cases hf
    | _ + 5, hv => simp at hv
  rw [cell_of_heap (h.block _ (cell_lt hp) h2 h1)]
  exact hp
end Go.Proofs.Ytkpjkglheegmgaa
