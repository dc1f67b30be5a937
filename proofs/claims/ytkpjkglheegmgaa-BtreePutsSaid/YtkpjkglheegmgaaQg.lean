/- The iterator over the pairs from a key: the walks of pairs and of its function; it stops as it is told. Conditions: a tree that may be, read in memory. -/
import Derived.RangeFuncKeeps
import Derived.RangeFuncBound
import Derived.RangeFuncLeaves
import Derived.Shelf.Abstract
import Derived.OwnWalkIn
import Derived.TacticsInMore
import Derived.LoopNIn
import Derived.LoopIn
import Derived.Stop.RegionWithIn
import Derived.Test.YtkpjkglheegmgaaQf
/- Pairs handed on from a key: the walk of hand, its leaf. Conditions: a tree that may be, read in memory; rounds that keep what stands below B. -/
namespace Go.Proofs.Ytkpjkglheegmgaa
open Go.RowKit Go.Shelf
set_option linter.unusedSimpArgs false
set_option linter.unusedVariables false
attribute [local go_sem] Oper.semAt_some

/-- The pairs from a key on. -/
def handT : Nat → Tr → Key → List Pr
  | 0, t, k => (t.ks.zip t.vs).drop (pos t.ks k)
  | n + 1, t, k => (t.cs.drop (tow t.ks k)).flatMap fun c => handT n c k
def pval (x : Pr) : Value := .agg #[.string x.1.s, .string x.2.s]
/-- What a round of the loop over pairs keeps. -/
def Rounds (l B N : Nat) (J Jx : List Pr → World → Prop) : Prop := ∀ m pre (x : Pr) W, J pre W → pre.length < N → YieldAt Fence.wide m Try.prog l #[pval x] W fun e W' =>
  (e = .returned (.bool true) ∧ J (pre ++ [x]) W' ∧ Below B W W') ∨ (e = .returned (.bool false) ∧ Jx (pre ++ [x]) W')

set_option maxRecDepth 100000 in
set_option maxHeartbeats 2000000 in
theorem hand_leaf (l N : Nat) (J Jx : List Pr → World → Prop) (w0 : World) (hY : Rounds l w0.heap.size N J Jx) (hJd : ∀ pre W, J pre W → J pre W.drew) (t : Tr) (g a b : Nat) (lo hi : Bd) (F : List Nat) (k : Key) (ho : Ok 0 a b lo hi t) (hb6 : b ≤ 6) (hr : RdN 0 w0 g t F)
    (m : Nat) (pre : List Pr) (W : World) (hB : Below w0.heap.size w0 W) (hJ : J pre W) (hN : pre.length + (handT 0 t k).length ≤ N) :
    CallsIn Fence.wide m Try.prog 44 #[ptr g, .string k.s, .func (.yield l) #[] #[]] W fun e W' =>
      (e = .returned (.bool true) ∧ J (pre ++ handT 0 t k) W' ∧ Below w0.heap.size W W') ∨ (e = .returned (.bool false) ∧ ∃ q, q <+: handT 0 t k ∧ Jx (pre ++ q) W') := by
  obtain ⟨gs, h, hbk⟩ := hr.node
  have hlen := ho.len
  have hI := callsIn_wide (n := m - 1).2 (isLeaf_any g t gs h W (hbk.below hB))
  rw [hr.leaf.2 rfl] at hI
  have hS := callsIn_wide (n := m - 1).2 (search_any h.kA t.ks.length h.kc t.ks k W rfl (hbk.below hB).k ho.asc (by omega))
  have HI := Lib.hid hI
  have HS := Lib.hid hS
  have HBK := Lib.hid hbk
  have HY := Lib.hid hY
  have HJ := Lib.hid hJ
  have hpl := pos_le t.ks k
  have hvs : t.vs.length = t.ks.length := ho.shape
  obtain ⟨c0, c1, _⟩ := (hbk.below hB).cells
  have HB := Lib.hid hB
  have HJD := Lib.hid hJd
  clear hI hS hbk hr ho hY hJ hB hJd
  refine callsIn_of_wp Try.func44 rfl trivial ?_ rfl
  simp only [Try.ntmps44, List.size_toArray, List.length_cons, List.length_nil, Nat.reduceAdd, Nat.reduceSub, Array.replicate_succ, Array.replicate_zero, List.push_toArray, List.append_toArray, List.nil_append, List.cons_append]
  gi_wp2_with (first
    | ((refine ⟨trivial, (fun h => (by cases h)), ?_⟩); gi_at_call 47; refine HI.out.mono ?_; rintro e W1 ⟨rfl, rfl⟩)
    | ((refine ⟨trivial, (fun h => (by cases h)), ?_⟩); gi_at_call 49; refine HS.out.mono ?_; rintro e W1 ⟨rfl, rfl⟩))
  have HZ := Lib.hid (show ∀ j (h1 : j < t.ks.length) (h2 : j < t.vs.length), (t.ks.zip t.vs)[j]? = some (t.ks[j], t.vs[j]) from fun j h1 h2 => by rw [List.getElem?_eq_getElem (by simp; omega)]; simp)
  have HH := Lib.hid (show handT 0 t k = (t.ks.zip t.vs).drop (pos t.ks k) from rfl)
  rw [HH.out] at hN
  have hzl : ((t.ks.zip t.vs).drop (pos t.ks k)).length = t.ks.length - pos t.ks k := by simp; omega
  rw [hzl] at hN
  generalize pos t.ks k = p at *
  gi_loopw [9] (fun iv wr => ∃ j : Nat, iv = .int .i64 j ∧ p ≤ j ∧ j ≤ t.ks.length ∧ J (pre ++ ((t.ks.zip t.vs).drop p).take (j - p)) wr ∧ Below w0.heap.size W wr) (fun iv _ => t.ks.length - (intOf iv).toNat)
  case atStart => exact ⟨p, rfl, Nat.le_refl _, hpl, by simpa using HJ.out, Below.refl _ _⟩
  case round =>
    obtain ⟨j, rfl, hpj, hj, hJ, hBr⟩ := hrel
    have HJ2 := Lib.hid hJ
    have HBR := Lib.hid hBr
    have hbr := HBK.out.below (HB.out.trans hBr)
    obtain ⟨d0, d1, _⟩ := hbr.cells
    clear hJ hBr c0 c1
    by_cases hlt : j < t.ks.length
    · have hlt2 : j < t.vs.length := by omega
      obtain ⟨ad, ha, q0⟩ := hbr.k.at_ (strs_at hlt)
      obtain ⟨ad2, ha2, q1⟩ := hbr.v.at_ (strs_at hlt2)
      rw [ha] at d0
      rw [ha2] at d1
      have hji : (j : Int) < (t.ks.length : Int) := by omega
      have hji2 : (j : Int) < (t.vs.length : Int) := by omega
      clear hbr ha ha2
      have hzj : ((t.ks.zip t.vs).drop p).take (j + 1 - p) = ((t.ks.zip t.vs).drop p).take (j - p) ++ [(t.ks[j], t.vs[j])] := by
        rw [show j + 1 - p = (j - p) + 1 by omega, List.take_add_one, List.getElem?_drop, show p + (j - p) = j by omega, HZ.out j hlt hlt2]; rfl
      have HZJ := Lib.hid hzj
      have hy0 : YieldAt Fence.wide (m - 1) Try.prog l #[.agg #[.string t.ks[j].s, .string t.vs[j].s]] wr.drew fun e W' => ∃ bv : Bool, e = .returned (.bool bv) ∧ (bv = true → J (pre ++ ((t.ks.zip t.vs).drop p).take (j + 1 - p)) W' ∧ Below w0.heap.size wr W') ∧ (bv = false → Jx (pre ++ ((t.ks.zip t.vs).drop p).take (j + 1 - p)) W') :=
        YieldAt.mono (HY.out (m - 1) _ (t.ks[j], t.vs[j]) wr.drew (HJD.out _ _ HJ2.out) (by simp; omega)) fun e W' h => by
          rw [HZJ.out, ← List.append_assoc]
          rcases h with ⟨rfl, h1, h2⟩ | ⟨rfl, h1⟩
          · exact ⟨true, rfl, fun _ => ⟨h1, (Below.refl _ _).drew.trans h2⟩, fun e => (by cases e)⟩
          · exact ⟨false, rfl, fun e => (by cases e), fun _ => h1⟩
      obtain ⟨fn, tmps, assign, body, hy, hR⟩ := hy0
      clear hzj
      gi_wp2
      refine wpIn_region_any (by kernel_rfl) ?_
      try (change wpAnyIn _ _ _ _ _ _ _ _ _ (World.drew _))
      refine wpAnyIn_take (i := 0) (v := ?vq0) rfl rfl (by kernel_rfl) (by kernel_rfl) (by kernel_rfl) (fun _ _ _ h => h) ⟨Or.inl ⟨by rfl, ?hyq0⟩, fun _ => rfl⟩ ?restq0
      case hyq0 => intro w; go_simp; with_reducible rfl
      try simp only [Act.put, List.setIfInBounds_toArray, List.set_cons_zero, List.set_cons_succ]
      refine wpAnyIn_take (i := 1) (v := ?vq1) rfl rfl (by kernel_rfl) (by kernel_rfl) (by kernel_rfl) (fun _ _ _ h => h) ⟨Or.inl ⟨by rfl, ?hyq1⟩, fun _ => rfl⟩ ?restq1
      case hyq1 => intro w; go_simp; with_reducible rfl
      try simp only [Act.put, List.setIfInBounds_toArray, List.set_cons_zero, List.set_cons_succ]
      refine wpAnyIn_take (i := 2) (v := ?vq2) rfl rfl (by kernel_rfl) (by kernel_rfl) (by kernel_rfl) (fun _ _ _ h => h) ⟨Or.inl ⟨by rfl, ?hyq2⟩, fun _ => rfl⟩ ?restq2
      case hyq2 => intro w; go_simp; with_reducible rfl
      try simp only [Act.put, List.setIfInBounds_toArray, List.set_cons_zero, List.set_cons_succ]
      refine wpAnyIn_take (i := 3) (v := ?vq3) rfl rfl (by kernel_rfl) (by kernel_rfl) (by kernel_rfl) (fun _ _ _ h => h) ⟨Or.inl ⟨by rfl, ?hyq3⟩, fun _ => rfl⟩ ?restq3
      case hyq3 => intro w; go_simp; with_reducible rfl
      try simp only [Act.put, List.setIfInBounds_toArray, List.set_cons_zero, List.set_cons_succ]
      refine wpAnyIn_take (i := 5) (v := ?vq5) rfl rfl (by kernel_rfl) (by kernel_rfl) (by kernel_rfl) (fun _ _ _ h => h) ⟨Or.inl ⟨by rfl, ?hyq5⟩, fun _ => rfl⟩ ?restq5
      case hyq5 => intro w; go_simp; with_reducible rfl
      try simp only [Act.put, List.setIfInBounds_toArray, List.set_cons_zero, List.set_cons_succ]
      refine wpAnyIn_take (i := 8) (v := ?vq8) rfl rfl (by kernel_rfl) (by kernel_rfl) (by kernel_rfl) (fun _ _ _ h => h) ⟨Or.inl ⟨by rfl, ?hyq8⟩, fun _ => rfl⟩ ?restq8
      case hyq8 => intro w; go_simp; with_reducible rfl
      try simp only [Act.put, List.setIfInBounds_toArray, List.set_cons_zero, List.set_cons_succ]
      refine wpAnyIn_take (i := 9) (v := ?vq9) rfl rfl (by kernel_rfl) (by kernel_rfl) (by kernel_rfl) (fun _ _ _ h => h) ⟨Or.inl ⟨by rfl, ?hyq9⟩, fun _ => rfl⟩ ?restq9
      case hyq9 => intro w; go_simp; with_reducible rfl
      try simp only [Act.put, List.setIfInBounds_toArray, List.set_cons_zero, List.set_cons_succ]
      refine wpAnyIn_take (i := 10) (v := ?vq10) rfl rfl (by kernel_rfl) (by kernel_rfl) (by kernel_rfl) (fun _ _ _ h => h) ⟨Or.inl ⟨by rfl, ?hyq10⟩, fun _ => rfl⟩ ?restq10
      case hyq10 => intro w; go_simp; with_reducible rfl
      try simp only [Act.put, List.setIfInBounds_toArray, List.set_cons_zero, List.set_cons_succ]
      refine wpAnyIn_take (i := 12) (v := ?vq12) rfl rfl (by kernel_rfl) (by kernel_rfl) (by kernel_rfl) (fun _ _ _ h => h) ⟨Or.inl ⟨by rfl, ?hyq12⟩, fun _ => rfl⟩ ?restq12
      case hyq12 => intro w; go_simp; with_reducible rfl
      try simp only [Act.put, List.setIfInBounds_toArray, List.set_cons_zero, List.set_cons_succ]
      refine wpAnyIn_ready (rs := [4, 11]) (by kernel_rfl) (by simp) ?_
      refine AllReadyIn.cons rfl (fun K hK => ?_) ?_
      · go_simp
        refine hK _ _ ?_
        clear hK K
        try simp only [Act.put, List.setIfInBounds_toArray, List.set_cons_zero, List.set_cons_succ]
        refine wpAnyIn_take (i := 6) (v := ?vqa6) rfl rfl (by kernel_rfl) (by kernel_rfl) (by kernel_rfl) (fun _ _ _ h => h) ⟨Or.inl ⟨by rfl, ?hyqa6⟩, fun _ => rfl⟩ ?restqa6
        case hyqa6 => intro w; go_simp; with_reducible rfl
        try simp only [Act.put, List.setIfInBounds_toArray, List.set_cons_zero, List.set_cons_succ]
        refine wpAnyIn_ready (rs := [7, 11]) (by kernel_rfl) (by simp) ?_
        refine AllReadyIn.cons rfl (fun K hK => ?_) ?_
        · go_simp
          refine hK _ _ ?_
          clear hK K
          try simp only [Act.put, List.setIfInBounds_toArray, List.set_cons_zero, List.set_cons_succ]
          refine wpAnyIn_ready (rs := [11]) (by kernel_rfl) (by simp) ?_
          refine AllReadyIn.cons rfl (fun K hK => ?_) ?_
          · go_simp
            refine hK _ _ ?_
            clear hK K
            try simp only [Act.put, List.setIfInBounds_toArray, List.set_cons_zero, List.set_cons_succ]
            refine wpAnyIn_take (i := 13) (v := ?vqaaa13) rfl rfl (by kernel_rfl) (by kernel_rfl) (by kernel_rfl) (fun _ _ _ h => h) ⟨Or.inl ⟨by rfl, ?hyqaaa13⟩, fun _ => rfl⟩ ?restqaaa13
            case hyqaaa13 => intro w; go_simp; with_reducible rfl
            try simp only [Act.put, List.setIfInBounds_toArray, List.set_cons_zero, List.set_cons_succ]
            refine wpAnyIn_ready (rs := [14]) (by kernel_rfl) (by simp) ?_
            refine AllReadyIn.cons rfl (fun K hK => ?_) ?_
            · go_simp
              refine hK _ _ ?_
              clear hK K
              try simp only [Act.put, List.setIfInBounds_toArray, List.set_cons_zero, List.set_cons_succ]
              refine wpAnyIn_take (i := 15) (v := ?vqaaaa15) rfl rfl (by kernel_rfl) (by kernel_rfl) (by kernel_rfl) (fun _ _ _ h => h) ⟨Or.inl ⟨by rfl, ?hyqaaaa15⟩, fun _ => rfl⟩ ?restqaaaa15
              case hyqaaaa15 => intro w; go_simp; with_reducible rfl
              try simp only [Act.put, List.setIfInBounds_toArray, List.set_cons_zero, List.set_cons_succ]
              refine wpAnyIn_ready (rs := [16]) (by kernel_rfl) (by simp) ?_
              refine AllReadyIn.cons rfl (fun K hK => ?_) ?_
              · go_simp
                (try refine ⟨(fun h => (by cases h)), ?_⟩)
                refine hR.mono ?_
                rintro e W3 ⟨bv, rfl, h3⟩
                refine hK _ _ ?_
                clear hK K
                try simp only [Act.put, List.setIfInBounds_toArray, List.set_cons_zero, List.set_cons_succ]
                refine wpAnyIn_ready (rs := [17]) (by kernel_rfl) (by simp) ?_
                refine AllReadyIn.cons rfl (fun K hK => ?_) ?_
                · go_simp
                  refine hK _ _ ?_
                  clear hK K
                  try simp only [Act.put, List.setIfInBounds_toArray, List.set_cons_zero, List.set_cons_succ]
                  refine wpAnyIn_done (by kernel_rfl) ?_ _
                  go_simp
                  clear hR hy
                  cases bv
                  · have HX4 := Lib.hid (h3.2 rfl)
                    clear h3
                    gi_wp2
                    go_ret
                    exact .inr ⟨rfl, ((t.ks.zip t.vs).drop p).take (j + 1 - p), by rw [HH.out]; exact List.take_prefix _ _, HX4.out⟩
                  · obtain ⟨h4, h5⟩ := h3.1 rfl
                    have HJ4 := Lib.hid h4
                    have HB4 := Lib.hid (HBR.out.trans h5)
                    clear h3 h4 h5
                    gi_wp2
                    go_roundw
                    case rel => exact ⟨j + 1, by go_num, by omega, by omega, HJ4.out, HB4.out⟩
                    case measure => simp [intOf]; omega
                exact AllReadyIn.nil
              exact AllReadyIn.nil
            exact AllReadyIn.nil
          exact AllReadyIn.nil
        refine AllReadyIn.cons rfl (fun K hK => ?_) ?_
        · go_simp
          refine hK _ _ ?_
          clear hK K
          try simp only [Act.put, List.setIfInBounds_toArray, List.set_cons_zero, List.set_cons_succ]
          refine wpAnyIn_take (i := 13) (v := ?vqab13) rfl rfl (by kernel_rfl) (by kernel_rfl) (by kernel_rfl) (fun _ _ _ h => h) ⟨Or.inl ⟨by rfl, ?hyqab13⟩, fun _ => rfl⟩ ?restqab13
          case hyqab13 => intro w; go_simp; with_reducible rfl
          try simp only [Act.put, List.setIfInBounds_toArray, List.set_cons_zero, List.set_cons_succ]
          refine wpAnyIn_ready (rs := [7, 14]) (by kernel_rfl) (by simp) ?_
          refine AllReadyIn.cons rfl (fun K hK => ?_) ?_
          · go_simp
            refine hK _ _ ?_
            clear hK K
            try simp only [Act.put, List.setIfInBounds_toArray, List.set_cons_zero, List.set_cons_succ]
            refine wpAnyIn_ready (rs := [14]) (by kernel_rfl) (by simp) ?_
            refine AllReadyIn.cons rfl (fun K hK => ?_) ?_
            · go_simp
              refine hK _ _ ?_
              clear hK K
              try simp only [Act.put, List.setIfInBounds_toArray, List.set_cons_zero, List.set_cons_succ]
              refine wpAnyIn_take (i := 15) (v := ?vqabaa15) rfl rfl (by kernel_rfl) (by kernel_rfl) (by kernel_rfl) (fun _ _ _ h => h) ⟨Or.inl ⟨by rfl, ?hyqabaa15⟩, fun _ => rfl⟩ ?restqabaa15
              case hyqabaa15 => intro w; go_simp; with_reducible rfl
              try simp only [Act.put, List.setIfInBounds_toArray, List.set_cons_zero, List.set_cons_succ]
              refine wpAnyIn_ready (rs := [16]) (by kernel_rfl) (by simp) ?_
              refine AllReadyIn.cons rfl (fun K hK => ?_) ?_
              · go_simp
                (try refine ⟨(fun h => (by cases h)), ?_⟩)
                refine hR.mono ?_
                rintro e W3 ⟨bv, rfl, h3⟩
                refine hK _ _ ?_
                clear hK K
                try simp only [Act.put, List.setIfInBounds_toArray, List.set_cons_zero, List.set_cons_succ]
                refine wpAnyIn_ready (rs := [17]) (by kernel_rfl) (by simp) ?_
                refine AllReadyIn.cons rfl (fun K hK => ?_) ?_
                · go_simp
                  refine hK _ _ ?_
                  clear hK K
                  try simp only [Act.put, List.setIfInBounds_toArray, List.set_cons_zero, List.set_cons_succ]
                  refine wpAnyIn_done (by kernel_rfl) ?_ _
                  go_simp
                  clear hR hy
                  cases bv
                  · have HX4 := Lib.hid (h3.2 rfl)
                    clear h3
                    gi_wp2
                    go_ret
                    exact .inr ⟨rfl, ((t.ks.zip t.vs).drop p).take (j + 1 - p), by rw [HH.out]; exact List.take_prefix _ _, HX4.out⟩
                  · obtain ⟨h4, h5⟩ := h3.1 rfl
                    have HJ4 := Lib.hid h4
                    have HB4 := Lib.hid (HBR.out.trans h5)
                    clear h3 h4 h5
                    gi_wp2
                    go_roundw
                    case rel => exact ⟨j + 1, by go_num, by omega, by omega, HJ4.out, HB4.out⟩
                    case measure => simp [intOf]; omega
                exact AllReadyIn.nil
              exact AllReadyIn.nil
            exact AllReadyIn.nil
          refine AllReadyIn.cons rfl (fun K hK => ?_) ?_
          · go_simp
            refine hK _ _ ?_
            clear hK K
            try simp only [Act.put, List.setIfInBounds_toArray, List.set_cons_zero, List.set_cons_succ]
            refine wpAnyIn_ready (rs := [7]) (by kernel_rfl) (by simp) ?_
            refine AllReadyIn.cons rfl (fun K hK => ?_) ?_
            · go_simp
              refine hK _ _ ?_
              clear hK K
              try simp only [Act.put, List.setIfInBounds_toArray, List.set_cons_zero, List.set_cons_succ]
              refine wpAnyIn_take (i := 15) (v := ?vqabba15) rfl rfl (by kernel_rfl) (by kernel_rfl) (by kernel_rfl) (fun _ _ _ h => h) ⟨Or.inl ⟨by rfl, ?hyqabba15⟩, fun _ => rfl⟩ ?restqabba15
              case hyqabba15 => intro w; go_simp; with_reducible rfl
              try simp only [Act.put, List.setIfInBounds_toArray, List.set_cons_zero, List.set_cons_succ]
              refine wpAnyIn_ready (rs := [16]) (by kernel_rfl) (by simp) ?_
              refine AllReadyIn.cons rfl (fun K hK => ?_) ?_
              · go_simp
                (try refine ⟨(fun h => (by cases h)), ?_⟩)
                refine hR.mono ?_
                rintro e W3 ⟨bv, rfl, h3⟩
                refine hK _ _ ?_
                clear hK K
                try simp only [Act.put, List.setIfInBounds_toArray, List.set_cons_zero, List.set_cons_succ]
                refine wpAnyIn_ready (rs := [17]) (by kernel_rfl) (by simp) ?_
                refine AllReadyIn.cons rfl (fun K hK => ?_) ?_
                · go_simp
                  refine hK _ _ ?_
                  clear hK K
                  try simp only [Act.put, List.setIfInBounds_toArray, List.set_cons_zero, List.set_cons_succ]
                  refine wpAnyIn_done (by kernel_rfl) ?_ _
                  go_simp
                  clear hR hy
                  cases bv
                  · have HX4 := Lib.hid (h3.2 rfl)
                    clear h3
                    gi_wp2
                    go_ret
                    exact .inr ⟨rfl, ((t.ks.zip t.vs).drop p).take (j + 1 - p), by rw [HH.out]; exact List.take_prefix _ _, HX4.out⟩
                  · obtain ⟨h4, h5⟩ := h3.1 rfl
                    have HJ4 := Lib.hid h4
                    have HB4 := Lib.hid (HBR.out.trans h5)
                    clear h3 h4 h5
                    gi_wp2
                    go_roundw
                    case rel => exact ⟨j + 1, by go_num, by omega, by omega, HJ4.out, HB4.out⟩
                    case measure => simp [intOf]; omega
                exact AllReadyIn.nil
              exact AllReadyIn.nil
            exact AllReadyIn.nil
          exact AllReadyIn.nil
        exact AllReadyIn.nil
      refine AllReadyIn.cons rfl (fun K hK => ?_) ?_
      · go_simp
        refine hK _ _ ?_
        clear hK K
        try simp only [Act.put, List.setIfInBounds_toArray, List.set_cons_zero, List.set_cons_succ]
        refine wpAnyIn_take (i := 13) (v := ?vqb13) rfl rfl (by kernel_rfl) (by kernel_rfl) (by kernel_rfl) (fun _ _ _ h => h) ⟨Or.inl ⟨by rfl, ?hyqb13⟩, fun _ => rfl⟩ ?restqb13
        case hyqb13 => intro w; go_simp; with_reducible rfl
        try simp only [Act.put, List.setIfInBounds_toArray, List.set_cons_zero, List.set_cons_succ]
        refine wpAnyIn_ready (rs := [4, 14]) (by kernel_rfl) (by simp) ?_
        refine AllReadyIn.cons rfl (fun K hK => ?_) ?_
        · go_simp
          refine hK _ _ ?_
          clear hK K
          try simp only [Act.put, List.setIfInBounds_toArray, List.set_cons_zero, List.set_cons_succ]
          refine wpAnyIn_take (i := 6) (v := ?vqba6) rfl rfl (by kernel_rfl) (by kernel_rfl) (by kernel_rfl) (fun _ _ _ h => h) ⟨Or.inl ⟨by rfl, ?hyqba6⟩, fun _ => rfl⟩ ?restqba6
          case hyqba6 => intro w; go_simp; with_reducible rfl
          try simp only [Act.put, List.setIfInBounds_toArray, List.set_cons_zero, List.set_cons_succ]
          refine wpAnyIn_ready (rs := [7, 14]) (by kernel_rfl) (by simp) ?_
          refine AllReadyIn.cons rfl (fun K hK => ?_) ?_
          · go_simp
            refine hK _ _ ?_
            clear hK K
            try simp only [Act.put, List.setIfInBounds_toArray, List.set_cons_zero, List.set_cons_succ]
            refine wpAnyIn_ready (rs := [14]) (by kernel_rfl) (by simp) ?_
            refine AllReadyIn.cons rfl (fun K hK => ?_) ?_
            · go_simp
              refine hK _ _ ?_
              clear hK K
              try simp only [Act.put, List.setIfInBounds_toArray, List.set_cons_zero, List.set_cons_succ]
              refine wpAnyIn_take (i := 15) (v := ?vqbaaa15) rfl rfl (by kernel_rfl) (by kernel_rfl) (by kernel_rfl) (fun _ _ _ h => h) ⟨Or.inl ⟨by rfl, ?hyqbaaa15⟩, fun _ => rfl⟩ ?restqbaaa15
              case hyqbaaa15 => intro w; go_simp; with_reducible rfl
              try simp only [Act.put, List.setIfInBounds_toArray, List.set_cons_zero, List.set_cons_succ]
              refine wpAnyIn_ready (rs := [16]) (by kernel_rfl) (by simp) ?_
              refine AllReadyIn.cons rfl (fun K hK => ?_) ?_
              · go_simp
                (try refine ⟨(fun h => (by cases h)), ?_⟩)
                refine hR.mono ?_
                rintro e W3 ⟨bv, rfl, h3⟩
                refine hK _ _ ?_
                clear hK K
                try simp only [Act.put, List.setIfInBounds_toArray, List.set_cons_zero, List.set_cons_succ]
                refine wpAnyIn_ready (rs := [17]) (by kernel_rfl) (by simp) ?_
                refine AllReadyIn.cons rfl (fun K hK => ?_) ?_
                · go_simp
                  refine hK _ _ ?_
                  clear hK K
                  try simp only [Act.put, List.setIfInBounds_toArray, List.set_cons_zero, List.set_cons_succ]
                  refine wpAnyIn_done (by kernel_rfl) ?_ _
                  go_simp
                  clear hR hy
                  cases bv
                  · have HX4 := Lib.hid (h3.2 rfl)
                    clear h3
                    gi_wp2
                    go_ret
                    exact .inr ⟨rfl, ((t.ks.zip t.vs).drop p).take (j + 1 - p), by rw [HH.out]; exact List.take_prefix _ _, HX4.out⟩
                  · obtain ⟨h4, h5⟩ := h3.1 rfl
                    have HJ4 := Lib.hid h4
                    have HB4 := Lib.hid (HBR.out.trans h5)
                    clear h3 h4 h5
                    gi_wp2
                    go_roundw
                    case rel => exact ⟨j + 1, by go_num, by omega, by omega, HJ4.out, HB4.out⟩
                    case measure => simp [intOf]; omega
                exact AllReadyIn.nil
              exact AllReadyIn.nil
            exact AllReadyIn.nil
          refine AllReadyIn.cons rfl (fun K hK => ?_) ?_
          · go_simp
            refine hK _ _ ?_
            clear hK K
            try simp only [Act.put, List.setIfInBounds_toArray, List.set_cons_zero, List.set_cons_succ]
            refine wpAnyIn_ready (rs := [7]) (by kernel_rfl) (by simp) ?_
            refine AllReadyIn.cons rfl (fun K hK => ?_) ?_
            · go_simp
              refine hK _ _ ?_
              clear hK K
              try simp only [Act.put, List.setIfInBounds_toArray, List.set_cons_zero, List.set_cons_succ]
              refine wpAnyIn_take (i := 15) (v := ?vqbaba15) rfl rfl (by kernel_rfl) (by kernel_rfl) (by kernel_rfl) (fun _ _ _ h => h) ⟨Or.inl ⟨by rfl, ?hyqbaba15⟩, fun _ => rfl⟩ ?restqbaba15
              case hyqbaba15 => intro w; go_simp; with_reducible rfl
              try simp only [Act.put, List.setIfInBounds_toArray, List.set_cons_zero, List.set_cons_succ]
              refine wpAnyIn_ready (rs := [16]) (by kernel_rfl) (by simp) ?_
              refine AllReadyIn.cons rfl (fun K hK => ?_) ?_
              · go_simp
                (try refine ⟨(fun h => (by cases h)), ?_⟩)
                refine hR.mono ?_
                rintro e W3 ⟨bv, rfl, h3⟩
                refine hK _ _ ?_
                clear hK K
                try simp only [Act.put, List.setIfInBounds_toArray, List.set_cons_zero, List.set_cons_succ]
                refine wpAnyIn_ready (rs := [17]) (by kernel_rfl) (by simp) ?_
                refine AllReadyIn.cons rfl (fun K hK => ?_) ?_
                · go_simp
                  refine hK _ _ ?_
                  clear hK K
                  try simp only [Act.put, List.setIfInBounds_toArray, List.set_cons_zero, List.set_cons_succ]
                  refine wpAnyIn_done (by kernel_rfl) ?_ _
                  go_simp
                  clear hR hy
                  cases bv
                  · have HX4 := Lib.hid (h3.2 rfl)
                    clear h3
                    gi_wp2
                    go_ret
                    exact .inr ⟨rfl, ((t.ks.zip t.vs).drop p).take (j + 1 - p), by rw [HH.out]; exact List.take_prefix _ _, HX4.out⟩
                  · obtain ⟨h4, h5⟩ := h3.1 rfl
                    have HJ4 := Lib.hid h4
                    have HB4 := Lib.hid (HBR.out.trans h5)
                    clear h3 h4 h5
                    gi_wp2
                    go_roundw
                    case rel => exact ⟨j + 1, by go_num, by omega, by omega, HJ4.out, HB4.out⟩
                    case measure => simp [intOf]; omega
                exact AllReadyIn.nil
              exact AllReadyIn.nil
            exact AllReadyIn.nil
          exact AllReadyIn.nil
        refine AllReadyIn.cons rfl (fun K hK => ?_) ?_
        · go_simp
          refine hK _ _ ?_
          clear hK K
          try simp only [Act.put, List.setIfInBounds_toArray, List.set_cons_zero, List.set_cons_succ]
          refine wpAnyIn_ready (rs := [4]) (by kernel_rfl) (by simp) ?_
          refine AllReadyIn.cons rfl (fun K hK => ?_) ?_
          · go_simp
            refine hK _ _ ?_
            clear hK K
            try simp only [Act.put, List.setIfInBounds_toArray, List.set_cons_zero, List.set_cons_succ]
            refine wpAnyIn_take (i := 6) (v := ?vqbba6) rfl rfl (by kernel_rfl) (by kernel_rfl) (by kernel_rfl) (fun _ _ _ h => h) ⟨Or.inl ⟨by rfl, ?hyqbba6⟩, fun _ => rfl⟩ ?restqbba6
            case hyqbba6 => intro w; go_simp; with_reducible rfl
            try simp only [Act.put, List.setIfInBounds_toArray, List.set_cons_zero, List.set_cons_succ]
            refine wpAnyIn_ready (rs := [7]) (by kernel_rfl) (by simp) ?_
            refine AllReadyIn.cons rfl (fun K hK => ?_) ?_
            · go_simp
              refine hK _ _ ?_
              clear hK K
              try simp only [Act.put, List.setIfInBounds_toArray, List.set_cons_zero, List.set_cons_succ]
              refine wpAnyIn_take (i := 15) (v := ?vqbbaa15) rfl rfl (by kernel_rfl) (by kernel_rfl) (by kernel_rfl) (fun _ _ _ h => h) ⟨Or.inl ⟨by rfl, ?hyqbbaa15⟩, fun _ => rfl⟩ ?restqbbaa15
              case hyqbbaa15 => intro w; go_simp; with_reducible rfl
              try simp only [Act.put, List.setIfInBounds_toArray, List.set_cons_zero, List.set_cons_succ]
              refine wpAnyIn_ready (rs := [16]) (by kernel_rfl) (by simp) ?_
              refine AllReadyIn.cons rfl (fun K hK => ?_) ?_
              · go_simp
                (try refine ⟨(fun h => (by cases h)), ?_⟩)
                refine hR.mono ?_
                rintro e W3 ⟨bv, rfl, h3⟩
                refine hK _ _ ?_
                clear hK K
                try simp only [Act.put, List.setIfInBounds_toArray, List.set_cons_zero, List.set_cons_succ]
                refine wpAnyIn_ready (rs := [17]) (by kernel_rfl) (by simp) ?_
                refine AllReadyIn.cons rfl (fun K hK => ?_) ?_
                · go_simp
                  refine hK _ _ ?_
                  clear hK K
                  try simp only [Act.put, List.setIfInBounds_toArray, List.set_cons_zero, List.set_cons_succ]
                  refine wpAnyIn_done (by kernel_rfl) ?_ _
                  go_simp
                  clear hR hy
                  cases bv
                  · have HX4 := Lib.hid (h3.2 rfl)
                    clear h3
                    gi_wp2
                    go_ret
                    exact .inr ⟨rfl, ((t.ks.zip t.vs).drop p).take (j + 1 - p), by rw [HH.out]; exact List.take_prefix _ _, HX4.out⟩
                  · obtain ⟨h4, h5⟩ := h3.1 rfl
                    have HJ4 := Lib.hid h4
                    have HB4 := Lib.hid (HBR.out.trans h5)
                    clear h3 h4 h5
                    gi_wp2
                    go_roundw
                    case rel => exact ⟨j + 1, by go_num, by omega, by omega, HJ4.out, HB4.out⟩
                    case measure => simp [intOf]; omega
                exact AllReadyIn.nil
              exact AllReadyIn.nil
            exact AllReadyIn.nil
          exact AllReadyIn.nil
        exact AllReadyIn.nil
      exact AllReadyIn.nil
    · obtain rfl : j = t.ks.length := by omega
      have hjn : ¬ ((t.ks.length : Int) < (t.ks.length : Int)) := by omega
      clear hbr
      gi_wp2
      go_ret
      refine .inl ⟨rfl, ?_, HBR.out⟩
      have := HJ2.out
      rw [List.take_of_length_le (by rw [hzl]; omega)] at this
      rw [HH.out]
      exact this
end Go.Proofs.Ytkpjkglheegmgaa
/- Pairs handed on from a key: the walk of hand, all trees. Conditions: a tree that may be, read in memory; rounds that keep what stands below B. -/
namespace Go.Proofs.Ytkpjkglheegmgaa
open Go.RowKit Go.Shelf
set_option linter.unusedSimpArgs false
set_option linter.unusedVariables false
attribute [local go_sem] Oper.semAt_some

set_option maxRecDepth 100000 in
set_option maxHeartbeats 2000000 in
theorem hand_any (l N : Nat) (J Jx : List Pr → World → Prop) (w0 : World) (hY : Rounds l w0.heap.size N J Jx) (hJd : ∀ pre W, J pre W → J pre W.drew) (k : Key) : ∀ (n : Nat) (t : Tr) (g a b : Nat) (lo hi : Bd) (F : List Nat), Ok n a b lo hi t → b ≤ 6 → RdN n w0 g t F →
    ∀ (m : Nat) (pre : List Pr) (W : World), Below w0.heap.size w0 W → J pre W → pre.length + (handT n t k).length ≤ N →
    CallsIn Fence.wide m Try.prog 44 #[ptr g, .string k.s, .func (.yield l) #[] #[]] W fun e W' =>
      (e = .returned (.bool true) ∧ J (pre ++ handT n t k) W' ∧ Below w0.heap.size W W') ∨ (e = .returned (.bool false) ∧ ∃ q, q <+: handT n t k ∧ Jx (pre ++ q) W')
  | 0, t, g, a, b, lo, hi, F, ho, hb6, hr, m, pre, W, hB, hJ, hN => hand_leaf l N J Jx w0 hY hJd t g a b lo hi F k ho hb6 hr m pre W hB hJ hN
  | n + 1, t, g, a, b, lo, hi, F, ho, hb6, hr, m, pre, W, hB, hJ, hN => by
    have IH := hand_any l N J Jx w0 hY hJd k n
    obtain ⟨gs, Fs, h, rfl, hc, hbk, hl, hk⟩ := hr.inner
    have hlen := ho.len
    have hcl := ho.kids
    have hI := callsIn_wide (n := m - 1).2 (isLeaf_any g t gs h W (hbk.below hB))
    have hce : t.cs.isEmpty = false := by
      cases hx : t.cs with
      | nil => exact absurd hx hc
      | cons _ _ => rfl
    rw [hce] at hI
    have hT := callsIn_wide (n := m - 1).2 (toward_any g t gs h k W.drew (hbk.below hB.drew) ho.asc (by omega))
    have hpl := tow_le t.ks k
    have hpc : tow t.ks k ≤ t.cs.length := by omega
    have HKID := Lib.hid (show ∀ j (h1 : j < t.cs.length), ∃ gi F', gs[j]? = some gi ∧ RdN n w0 gi t.cs[j] F' ∧ ∃ a' lo' hi', Ok n a' 4 lo' hi' t.cs[j] from fun j h1 => by
      have h2 : j < gs.length := by rw [hbk.n]; exact h1
      obtain ⟨c', e3, _, hco⟩ := ho.about (i := j) (by omega)
      rw [List.getElem?_eq_getElem h1] at e3
      injection e3 with e3
      subst e3
      exact ⟨gs[j], Fs[j], List.getElem?_eq_getElem h2, hk j gs[j] t.cs[j] _ (List.getElem?_eq_getElem h2) (List.getElem?_eq_getElem h1) (List.getElem?_eq_getElem (by omega)), 2, _, _, hco⟩)
    have HI := Lib.hid hI
    have HT := Lib.hid hT
    have HBK := Lib.hid hbk
    have HJ := Lib.hid hJ
    have HIH := Lib.hid IH
    have HB := Lib.hid hB
    have HJD := Lib.hid hJd
    have HH := Lib.hid (show handT (n + 1) t k = (t.cs.drop (tow t.ks k)).flatMap (fun c => handT n c k) from rfl)
    obtain ⟨_, _, c2⟩ := (hbk.below hB.drew).cells
    have hcc := hbk.c.cap
    have hcl2 := hbk.c.le
    obtain ⟨_, _, d2⟩ := (hbk.below hB).cells
    have HCD := Lib.hid (hbk.c.drop hpc)
    unfold cutA at HCD
    rw [ptrs_drop] at HCD
    rw [HH.out] at hN
    clear hI hT hbk hr ho hJ hB hJd IH hk hl hc hce hcl hY
    generalize tow t.ks k = p at *
    have hpi : (p : Int) ≤ (t.cs.length : Int) := by omega
    have hpi2 : (p : Int) ≤ (h.cc : Int) := by omega
    refine callsIn_of_wp Try.func44 rfl trivial ?_ rfl
    simp only [Try.ntmps44, List.size_toArray, List.length_cons, List.length_nil, Nat.reduceAdd, Nat.reduceSub, Array.replicate_succ, Array.replicate_zero, List.push_toArray, List.append_toArray, List.nil_append, List.cons_append]
    gi_wp2_with (first
      | ((refine ⟨trivial, (fun h => (by cases h)), ?_⟩); gi_at_call 47; refine HI.out.mono ?_; rintro e W1 ⟨rfl, rfl⟩))
    gi_region_with ((refine ⟨trivial, (fun h => (by cases h)), ?_⟩); gi_at_call 48; refine HT.out.mono ?_; rintro e W3 ⟨rfl, rfl⟩)
    · have HCD2 := HCD
      generalize (if h.cc = p then h.cA else Option.map (fun x => x.add p) h.cA) = BA at HCD2 ⊢
      gi_wp2
      gi_loopw [11, 60] (fun _ iv wr => ∃ j : Nat, iv = .int .i64 j ∧ j ≤ t.cs.length - p ∧ J (pre ++ ((t.cs.drop p).take j).flatMap (fun c => handT n c k)) wr ∧ Below w0.heap.size W wr) (fun _ iv _ => t.cs.length - p - (intOf iv).toNat)
      case atStart => exact ⟨0, rfl, Nat.zero_le _, by simpa using HJD.out _ _ HJ.out, (Below.refl _ _).drew⟩
      case round =>
        obtain ⟨j, rfl, hj, hJ, hBr⟩ := hrel
        have HJ2 := Lib.hid hJ
        have HBR := Lib.hid hBr
        clear hJ hBr c2 d2
        by_cases hlt : j < t.cs.length - p
        · have hpj : p + j < t.cs.length := by omega
          obtain ⟨gi, F', e1, rk, a', lo', hi', ok⟩ := HKID.out (p + j) hpj
          obtain ⟨ad, ha, q0⟩ := (HCD2.out.below (HB.out.trans HBR.out)).at_ (show (ptrs (gs.drop p))[j]? = some (ptr gi) by simp [ptrs, e1])
          rw [ha]
          have hji : (j : Int) < ((t.cs.length - p : Nat) : Int) := by omega
          have hdl : (t.cs.drop p)[j]? = some t.cs[p + j] := by rw [List.getElem?_drop, List.getElem?_eq_getElem hpj]
          have hst : ((t.cs.drop p).take (j + 1)).flatMap (fun c => handT n c k) = ((t.cs.drop p).take j).flatMap (fun c => handT n c k) ++ handT n t.cs[p + j] k := by
            rw [List.take_add_one, hdl, List.flatMap_append]; simp
          have hpre : (((t.cs.drop p).take (j + 1)).flatMap (fun c => handT n c k)) <+: (t.cs.drop p).flatMap (fun c => handT n c k) := by
            conv => rhs; rw [← List.take_append_drop (j + 1) (t.cs.drop p), List.flatMap_append]
            exact List.prefix_append _ _
          have HPRE := Lib.hid hpre
          have hle := hpre.length_le
          rw [hst, List.length_append] at hle
          have HC := Lib.hid (HIH.out t.cs[p + j] gi a' 4 lo' hi' F' ok (by omega) rk (m - 1) _ wr (HB.out.trans HBR.out) HJ2.out (by rw [List.length_append]; omega))
          have HST := Lib.hid hst
          clear hst hpre hle ok rk ha hdl
          gi_wp2_with ((refine ⟨trivial, (fun h => (by cases h)), ?_⟩); gi_at_call 44; refine HC.out.mono ?_; rintro e W3 (⟨rfl, hJ3, hB3⟩ | ⟨rfl, q, hq, hJx⟩))
          · have HJ3 := Lib.hid hJ3
            have HB3 := Lib.hid (HBR.out.trans hB3)
            clear hJ3 hB3
            gi_wp2
            go_roundw
            case rel => exact ⟨j + 1, by go_num, by omega, by rw [HST.out, ← List.append_assoc]; exact HJ3.out, HB3.out⟩
            case measure => simp [intOf]; omega
          · have HJX := Lib.hid hJx
            have HQ := Lib.hid hq
            clear hJx hq
            gi_wp2
            go_ret
            refine .inr ⟨rfl, ((t.cs.drop p).take j).flatMap (fun c => handT n c k) ++ q, ?_, by rw [← List.append_assoc]; exact HJX.out⟩
            rw [HH.out]
            refine List.IsPrefix.trans ?_ HPRE.out
            rw [HST.out]
            exact (List.prefix_append_right_inj _).2 HQ.out
        · obtain rfl : j = t.cs.length - p := by omega
          gi_wp2
          go_ret
          refine .inl ⟨rfl, ?_, HBR.out⟩
          have := HJ2.out
          rw [List.take_of_length_le (by simp)] at this
          rw [HH.out]
          exact this
    · have HCD2 := HCD
      generalize (if h.cc = p then h.cA else Option.map (fun x => x.add p) h.cA) = BA at HCD2 ⊢
      gi_wp2
      gi_loopw [11, 60] (fun _ iv wr => ∃ j : Nat, iv = .int .i64 j ∧ j ≤ t.cs.length - p ∧ J (pre ++ ((t.cs.drop p).take j).flatMap (fun c => handT n c k)) wr ∧ Below w0.heap.size W wr) (fun _ iv _ => t.cs.length - p - (intOf iv).toNat)
      case atStart => exact ⟨0, rfl, Nat.zero_le _, by simpa using HJD.out _ _ HJ.out, (Below.refl _ _).drew⟩
      case round =>
        obtain ⟨j, rfl, hj, hJ, hBr⟩ := hrel
        have HJ2 := Lib.hid hJ
        have HBR := Lib.hid hBr
        clear hJ hBr c2 d2
        by_cases hlt : j < t.cs.length - p
        · have hpj : p + j < t.cs.length := by omega
          obtain ⟨gi, F', e1, rk, a', lo', hi', ok⟩ := HKID.out (p + j) hpj
          obtain ⟨ad, ha, q0⟩ := (HCD2.out.below (HB.out.trans HBR.out)).at_ (show (ptrs (gs.drop p))[j]? = some (ptr gi) by simp [ptrs, e1])
          rw [ha]
          have hji : (j : Int) < ((t.cs.length - p : Nat) : Int) := by omega
          have hdl : (t.cs.drop p)[j]? = some t.cs[p + j] := by rw [List.getElem?_drop, List.getElem?_eq_getElem hpj]
          have hst : ((t.cs.drop p).take (j + 1)).flatMap (fun c => handT n c k) = ((t.cs.drop p).take j).flatMap (fun c => handT n c k) ++ handT n t.cs[p + j] k := by
            rw [List.take_add_one, hdl, List.flatMap_append]; simp
          have hpre : (((t.cs.drop p).take (j + 1)).flatMap (fun c => handT n c k)) <+: (t.cs.drop p).flatMap (fun c => handT n c k) := by
            conv => rhs; rw [← List.take_append_drop (j + 1) (t.cs.drop p), List.flatMap_append]
            exact List.prefix_append _ _
          have HPRE := Lib.hid hpre
          have hle := hpre.length_le
          rw [hst, List.length_append] at hle
          have HC := Lib.hid (HIH.out t.cs[p + j] gi a' 4 lo' hi' F' ok (by omega) rk (m - 1) _ wr (HB.out.trans HBR.out) HJ2.out (by rw [List.length_append]; omega))
          have HST := Lib.hid hst
          clear hst hpre hle ok rk ha hdl
          gi_wp2_with ((refine ⟨trivial, (fun h => (by cases h)), ?_⟩); gi_at_call 44; refine HC.out.mono ?_; rintro e W3 (⟨rfl, hJ3, hB3⟩ | ⟨rfl, q, hq, hJx⟩))
          · have HJ3 := Lib.hid hJ3
            have HB3 := Lib.hid (HBR.out.trans hB3)
            clear hJ3 hB3
            gi_wp2
            go_roundw
            case rel => exact ⟨j + 1, by go_num, by omega, by rw [HST.out, ← List.append_assoc]; exact HJ3.out, HB3.out⟩
            case measure => simp [intOf]; omega
          · have HJX := Lib.hid hJx
            have HQ := Lib.hid hq
            clear hJx hq
            gi_wp2
            go_ret
            refine .inr ⟨rfl, ((t.cs.drop p).take j).flatMap (fun c => handT n c k) ++ q, ?_, by rw [← List.append_assoc]; exact HJX.out⟩
            rw [HH.out]
            refine List.IsPrefix.trans ?_ HPRE.out
            rw [HST.out]
            exact (List.prefix_append_right_inj _).2 HQ.out
        · obtain rfl : j = t.cs.length - p := by omega
          gi_wp2
          go_ret
          refine .inl ⟨rfl, ?_, HBR.out⟩
          have := HJ2.out
          rw [List.take_of_length_le (by simp)] at this
          rw [HH.out]
          exact this
end Go.Proofs.Ytkpjkglheegmgaa
namespace Go.Proofs.Ytkpjkglheegmgaa
open Go.RowKit Go.Shelf
set_option linter.unusedSimpArgs false
set_option linter.unusedVariables false
attribute [local go_sem] Oper.semAt_some

theorem yield_any {m m' : Nat} {l : Nat} {args : Array Value} {W : World} {R : Ending → World → Prop} (h : YieldAt Fence.wide m Try.prog l args W R) : YieldAt Fence.wide m' Try.prog l args W R := by
  obtain ⟨fn, tmps, assign, body, hy, hR⟩ := h
  exact ⟨fn, tmps, assign, body, hy, hR.1, fun c cs _ => hR.2 c cs (fun d h => by cases h)⟩

theorem pairs_any (g : Nat) (k : ByteArray) (w : World) :
    Calls Try.prog 27 #[ptr g, .string k] w fun e w' => e = .returned (.func (.func 43) #[] #[.pointer (some ⟨w.heap.size, 0, none⟩), .pointer (some ⟨w.heap.size + 1, 0, none⟩)]) ∧ w' = (w.alloc (.cells #[ptr g] 67)).alloc (.cells #[.string k] 9) := by
  have hmf : ∀ (fn : Fn) (first cap : Array Value) (w : World), (Instr.makeFunc fn first cap).run Try.prog w = .ok (.func fn first cap) w := fun _ _ _ _ => rfl
  go_enter Try.func27, Try.ntmps27
  go_wp2
  go_ret
  exact ⟨rfl, rfl⟩

set_option maxHeartbeats 1000000 in
theorem pairs_stops (n : Nat) (t : Tr) (g a b : Nat) (lo hi : Bd) (F : List Nat) (k : Key) (w0 w : World) (ho : Ok n a b lo hi t) (hb6 : b ≤ 6) (hr : RdN n w0 g t F) (hB : Below w0.heap.size w0 w) (m b1 b2 : Nat) (hb1 : b1 < w.heap.size) (hb2 : b2 < w.heap.size) (h1 : w.cell? ⟨b1, 0, none⟩ = some (ptr g)) (h2 : w.cell? ⟨b2, 0, none⟩ = some (.string k.s)) :
    SeqStopsK Fence.wide m Try.prog 43 #[.pointer (some ⟨b1, 0, none⟩), .pointer (some ⟨b2, 0, none⟩)] (fun x : Pr => #[pval x]) (Below w0.heap.size) (fun ys => ys = handT n t k) (fun pre => pre <+: handT n t k) (handT n t k).length w := fun l J Jx W hW hJ hJx hY h0 => by
  have hJd : ∀ pre W, J pre W → J pre W.drew := fun pre W h => hJ pre W W.drew none h ⟨rfl, rfl, rfl, Nat.le_refl _, fun _ _ _ => rfl⟩ (fun r e => by cases e)
  have hp := hand_any l (handT n t k).length J Jx w0 (fun m' pre x W hj hl => yield_any (hY pre x W hj hl)) hJd k n t g a b lo hi F ho hb6 hr (m - 1) [] W (hB.trans (hW.mono (by have := hB.size; omega))) h0 (by simp)
  have c1 := (hW.cell (p := ⟨b1, 0, none⟩) hb1).trans h1
  have c2 := (hW.cell (p := ⟨b2, 0, none⟩) hb2).trans h2
  have HP := Lib.hid hp
  clear hp hJd hY hW h1 h2
  refine callsIn_of_wp Try.func43 rfl trivial ?_ rfl
  simp only [Try.ntmps43, List.size_toArray, List.length_cons, List.length_nil, Nat.reduceAdd, Nat.reduceSub, Array.replicate_succ, Array.replicate_zero, List.push_toArray, List.append_toArray, List.nil_append, List.cons_append]
  gi_wp2_with ((refine ⟨trivial, (fun h => (by cases h)), ?_⟩); gi_at_call 44; refine HP.out.mono ?_; rintro e W1 (⟨rfl, hJ1, _⟩ | ⟨rfl, q, hq, hx⟩))
  · go_end0
    exact ⟨⟨_, rfl⟩, .inl ⟨_, rfl, by simpa using hJ1⟩⟩
  · go_end0
    exact ⟨⟨_, rfl⟩, .inr ⟨q, hq, by simpa using hx⟩⟩
end Go.Proofs.Ytkpjkglheegmgaa
