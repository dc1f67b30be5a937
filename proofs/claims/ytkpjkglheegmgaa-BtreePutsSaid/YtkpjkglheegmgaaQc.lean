/- A tree read out of a state, or the number of what is wrong: the walk of read and of its deferred function. Conditions: a state that is read in memory. -/
import Derived.Test.YtkpjkglheegmgaaQVi
import Derived.Deep.RegionHeld2
/- A tree read out of a state: the walk of the reader's branch at an inner node. Conditions: a state that is read in memory, of at most 2048 nodes; a reader in a block of its own. -/
namespace Go.Proofs.Ytkpjkglheegmgaa
open Go.RowKit
set_option linter.unusedSimpArgs false
set_option linter.unusedVariables false

/-- Kids' addresses, those that are still nil behind. -/
def kidsC (gs : List Nat) (m : Nat) : Array Value := (ptrs gs ++ List.replicate (m - gs.length) (Value.pointer none)).toArray
theorem kidsC_none (m : Nat) : kidsC [] m = nils m := rfl
theorem kidsC_size (gs : List Nat) (m : Nat) (h : gs.length ≤ m) : (kidsC gs m).size = m := by simp [kidsC, ptrs_len]; omega
theorem kidsC_at {gs : List Nat} {m : Nat} (h : gs.length < m) : (kidsC gs m)[gs.length]? = some (.pointer none) := by
  unfold kidsC
  rw [List.getElem?_toArray, List.getElem?_append_right (by rw [ptrs_len]; omega), ptrs_len, Nat.sub_self, List.getElem?_replicate, if_pos (by omega)]
theorem kidsC_set {gs : List Nat} {m g : Nat} (h : gs.length < m) : (kidsC gs m).setIfInBounds gs.length (ptr g) = kidsC (gs ++ [g]) m := by
  rw [← Array.toList_inj]
  simp only [kidsC, Array.toList_setIfInBounds, List.length_append, List.length_singleton]
  obtain ⟨k, hk⟩ : ∃ k, m - gs.length = k + 1 := ⟨m - gs.length - 1, by omega⟩
  have hk2 : m - (gs.length + 1) = k := by omega
  rw [hk, hk2, List.replicate_succ, ptrs_app]
  have e : gs.length = (ptrs gs).length := (ptrs_len gs).symm
  rw [e, set_at]
  simp [ptrs]
theorem cell_blk {w : World} {g : Nat} {cs : Array Value} {T : TypeId} (h : w.heap[g]? = some (.cells cs T (0, 0))) (j : Nat) : w.cell? ((⟨g, 0, none⟩ : Addr).add j) = cs[j]? := by
  unfold Addr.add
  split
  · rename_i e; subst e; simp [World.cell?, h]
  · simp [World.cell?, h]
theorem kid_deep {nodes : List Nd} {f deep : Nat} {lo hi : Bd} {ks : List Key} {kids : List Int} {s1 sj : Sr} {ts : List Tr} {R1 : Option (List Tr × Sr)} (h0 : 0 < kids.length) (h : R1 = some (ts, sj)) (h1 : R1 = rdK (fun lo hi c s => rd nodes f lo hi (deep + 1) c s) lo hi ks kids s1) (hd : 1 ≤ deep) : deep + 1 ≤ sj.L := by
  rw [h] at h1
  obtain ⟨n, _, ht⟩ := rdK_ok (D := deep + 1) (by omega) (fun lo hi c s t s' h => by
    obtain ⟨n, k1, k2⟩ := rd_ok nodes f lo hi (deep + 1) c s t s' h (by omega)
    exact ⟨n, k1.resize (by have := k1.len; unfold least at this; rw [if_neg (by omega)] at this; exact this.1) k1.len.2, k2⟩) _ _ _ _ _ _ h1.symm
  have := ht.l1
  omega
/-- Where the reading of a node's kids stands. -/
structure KidSt (nodes : List Nd) (f deep gr gm : Nat) (A : Option Addr) (n c : Nat) (root : Int) (lo hi : Bd) (x : Nd) (h : Hd) (w w0 : World) (bs_ bn g gk : Nat) (s1 : Sr) (R1 : Option (List Tr × Sr)) (j : Nat) (wr : World) (gs : List Nat) (ts : List Tr) (Fs : List (List Nat)) (s : Sr) : Prop where
  rdr : Rdr wr gr gm A n c root s
  rg : Rg gr gm w wr
  span : wr.heap[bs_]? = some (.cells #[.string (bs lo), .string (bs hi), .bool hi.isSome] 111 (0, 0))
  node : wr.heap[bn]? = some (.cells #[.slice h.kA x.ks.length h.kc, .slice h.vA x.vs.length h.vc, .slice h.cA x.kids.length h.cc] 66 (0, 0))
  br : wr.heap[g]? = some (.cells #[.slice h.kA x.ks.length h.kc, .slice h.vA x.vs.length h.vc, .slice (some ⟨gk, 0, none⟩) x.kids.length x.kids.length] 99 (0, 0))
  kids : wr.heap[gk]? = some (.cells (kidsC gs x.kids.length) 67 (0, 0))
  k : Rd wr h.kA x.ks.length h.kc (strs x.ks)
  v : Rd wr h.vA x.vs.length h.vc (strs x.vs)
  c : Rd wr h.cA x.kids.length h.cc (ints x.kids)
  lg : gs.length = j
  lt : ts.length = j
  lf : Fs.length = j
  tree : ∀ (i : Nat) (g' : Nat) (t : Tr) (fp : List Nat), gs[i]? = some g' → ts[i]? = some t → Fs[i]? = some fp → RdN (s.L - (deep + 1)) wr g' t fp
  fresh : ∀ b ∈ Fs.flatten, g < b
  nodup : Fs.flatten.Nodup
  lL : 0 < j → s.L ≠ 0
  fine : Fine nodes.length s
  more : More s1 s
  p : s.p ≤ 2048
  eq : R1 = rest (fun lo hi c s => rd nodes f lo hi (deep + 1) c s) lo hi x.ks x.kids j ts s
theorem heap_ne {w : World} {a b : Nat} {o p : Obj} (h1 : w.heap[a]? = some o) (h2 : w.heap[b]? = some p) (h : o ≠ p) : a ≠ b := fun e => by
  subst e
  rw [h1] at h2
  exact h (Option.some.inj h2)
theorem cells_ne {a b : Array Value} {s t : TypeId} (h : s ≠ t) : (Obj.cells a s (0, 0)) ≠ .cells b t (0, 0) := fun e => by
  injection e with _ e _
  exact h e
theorem Fs_at {Fs : List (List Nat)} {b : Nat} (h : b ∈ Fs.flatten) : ∃ (i : Nat) (f : List Nat), Fs[i]? = some f ∧ b ∈ f := by
  obtain ⟨f, hf, hb⟩ := List.mem_flatten.1 h
  obtain ⟨i, hi, rfl⟩ := List.getElem_of_mem hf
  exact ⟨i, _, List.getElem?_eq_getElem hi, hb⟩
theorem get_snoc {α : Type} {l : List α} {x y : α} {i : Nat} (h : (l ++ [x])[i]? = some y) : (i < l.length ∧ l[i]? = some y) ∨ (i = l.length ∧ x = y) := by
  rcases Nat.lt_or_ge i l.length with h1 | h1
  · rw [List.getElem?_append_left h1] at h
    exact .inl ⟨h1, h⟩
  · rw [List.getElem?_append_right h1] at h
    rcases Nat.eq_zero_or_pos (i - l.length) with h2 | h2
    · rw [h2] at h
      simp at h
      exact .inr ⟨by omega, h⟩
    · rw [List.getElem?_eq_none (by simp; omega)] at h
      cases h
set_option maxHeartbeats 1000000 in
theorem KidSt.step {nodes : List Nd} {f deep gr gm : Nat} {A : Option Addr} {n c : Nat} {root : Int} {lo hi : Bd} {x : Nd} {h : Hd} {w w0 : World} {bs_ bn g gk : Nat} {s1 : Sr} {R1 : Option (List Tr × Sr)} {j : Nat} {wr : World} {gs : List Nat} {ts : List Tr} {Fs : List (List Nat)} {s : Sr}
    (k : KidSt nodes f deep gr gm A n c root lo hi x h w w0 bs_ bn g gk s1 R1 j wr gs ts Fs s) (hlt : j < x.kids.length) (hl : x.kids.length = x.ks.length + 1) (hd : 1 ≤ deep) {a : Int} (ha : x.kids[j] = a) {w7 w8 : World} {t : Tr} {s' : Sr} {g' : Nat} {F' : List Nat} (hb7 : Below wr.heap.size wr w7)
    (hr : rd nodes f (lst lo (x.ks.take j)) (hed hi (x.ks.drop j)) (deep + 1) a s = some (t, s')) (hN : RdN (s'.L - (deep + 1)) w8 g' t F') (hF : ∀ b ∈ F', w7.heap.size ≤ b) (hnd : F'.Nodup) (hr8 : Rdr w8 gr gm A n c root s') (hg8 : Rg gr gm w7 w8)
    (hgk : w.heap.size ≤ gk) (hgw : gr < w.heap.size ∧ gm < w.heap.size) (hC : ∀ W, Rg gr gm w W → Rd W h.cA x.kids.length h.cc (ints x.kids)) :
    KidSt nodes f deep gr gm A n c root lo hi x h w w0 bs_ bn g gk s1 R1 (j + 1) (w8.setCell ⟨gk, j, none⟩ (ptr g')) (gs ++ [g']) (ts ++ [t]) (Fs ++ [F']) s' := by
  have hr7 := k.rdr.below hb7
  have b1 := heap_lt k.span
  have b2 := heap_lt k.node
  have b3 := heap_lt k.br
  have b4 := heap_lt k.kids
  have z7 := hb7.size
  have z8 := hg8.size
  have nr : ∀ {b : Nat} {cs : Array Value} {T : TypeId}, wr.heap[b]? = some (.cells cs T (0, 0)) → T ≠ 90 → b ≠ gr ∧ b ≠ gm := fun hb hT => by
    obtain ⟨es, cl, hm, _⟩ := k.rdr.met
    exact ⟨heap_ne hb k.rdr.blk (cells_ne hT), heap_ne hb hm (fun e => by cases e)⟩
  obtain ⟨s1g, s1m⟩ := nr k.span (by decide)
  obtain ⟨n1g, n1m⟩ := nr k.node (by decide)
  obtain ⟨r1g, r1m⟩ := nr k.br (by decide)
  obtain ⟨k1g, k1m⟩ := nr k.kids (by decide)
  have e1 : bs_ ≠ gk := heap_ne k.span k.kids (cells_ne (by decide))
  have e2 : bn ≠ gk := heap_ne k.node k.kids (cells_ne (by decide))
  have e3 : g ≠ gk := heap_ne k.br k.kids (cells_ne (by decide))
  have hold : ∀ {b : Nat}, b < wr.heap.size → b ≠ gr → b ≠ gm → b ≠ gk → (w8.setCell ⟨gk, j, none⟩ (ptr g')).heap[b]? = wr.heap[b]? := fun {b} h1 h2 h3 h4 =>
    (Below.heap_setCell w8 ⟨gk, j, none⟩ (ptr g') b h4).trans ((hg8.block b (by omega) h2 h3).trans (hb7.block b h1))
  have hk8 : w8.heap[gk]? = some (.cells (kidsC gs x.kids.length) 67 (0, 0)) := (hg8.block gk (by omega) k1g k1m).trans ((hb7.block gk b4).trans k.kids)
  have hgl : gs.length < x.kids.length := by rw [k.lg]; exact hlt
  have hk0 : w8.cell? ⟨gk, j, none⟩ = some (.pointer none) := by
    have h2 := kidsC_at hgl
    rw [k.lg] at h2
    simp [World.cell?, hk8, h2]
  have hkv : Kv wr (w8.setCell ⟨gk, j, none⟩ (ptr g')) := ((Kv.of_below hb7).trans (hg8.kv hr7)).trans (Kv.set _ hk0 rfl)
  have hrg8 : Rg gr gm w w8 := (k.rg.trans (Rg.of_below hb7)).trans hg8
  have hrg : Rg gr gm w (w8.setCell ⟨gk, j, none⟩ (ptr g')) := hrg8.set (p := ⟨gk, j, none⟩) hgk _
  obtain ⟨n', hok, ht⟩ := rd_ok nodes f _ _ _ _ _ _ _ hr (by omega)
  obtain ⟨hfi, hmo⟩ := rd_met nodes f _ _ _ _ _ _ _ hr k.fine
  have hLs : 0 < j → s'.L = s.L := fun h0 => by
    rcases ht.l0 with e | e
    · exact absurd e (k.lL h0)
    · exact e.symm
  have hFlt : ∀ b ∈ Fs.flatten, b < wr.heap.size ∧ IsBr wr b := fun b hb => by
    obtain ⟨i, fp, h1, h2⟩ := Fs_at hb
    have hi : i < Fs.length := (List.getElem?_eq_some_iff.1 h1).1
    have hi1 : i < gs.length := by rw [k.lg, ← k.lf]; exact hi
    have hi2 : i < ts.length := by rw [k.lt, ← k.lf]; exact hi
    have ht := k.tree i _ _ _ (List.getElem?_eq_getElem hi1) (List.getElem?_eq_getElem hi2) h1
    exact ⟨ht.lt b h2, ht.br b h2⟩
  refine ⟨?_, hrg, (hold b1 s1g s1m e1).trans k.span, (hold b2 n1g n1m e2).trans k.node, (hold b3 r1g r1m e3).trans k.br, ?_, k.k.kv (strs_firm _) hkv, k.v.kv (strs_firm _) hkv, hC _ hrg, by simp [k.lg], by simp [k.lt], by simp [k.lf], ?_, ?_, ?_, fun _ => by have := ht.l1; omega, hfi, k.more.trans hmo, ht.p1, ?_⟩
  · exact hr8.other (p := ⟨gk, j, none⟩) k1g k1m _
  · rw [heap_setCell_same w8 gk j _ _ _ hk8, ← k.lg, kidsC_set hgl]
  · intro i g2 t2 f2 h1 h2 h3
    rcases get_snoc h1 with ⟨h4, h1⟩ | ⟨h4, rfl⟩
    · rcases get_snoc h2 with ⟨_, h2⟩ | ⟨h5, _⟩
      · rcases get_snoc h3 with ⟨_, h3⟩ | ⟨h5, _⟩
        · have hi : 0 < j := by have := k.lg; omega
          rw [hLs hi]
          have htree := k.tree i g2 t2 f2 h1 h2 h3
          refine htree.keep hkv fun b hb => ?_
          obtain ⟨_, _, _, _, _, _, _, _, _, hbr⟩ := htree.br b hb
          obtain ⟨q1, q2⟩ := nr hbr (by decide)
          exact hold (htree.lt b hb) q1 q2 (heap_ne hbr k.kids (cells_ne (by decide)))
        · have := k.lf; have := k.lg; omega
      · have := k.lt; have := k.lg; omega
    · rcases get_snoc h2 with ⟨h5, _⟩ | ⟨_, rfl⟩
      · have := k.lt; have := k.lg; omega
      · rcases get_snoc h3 with ⟨h5, _⟩ | ⟨_, rfl⟩
        · have := k.lf; have := k.lg; omega
        · refine hN.keep (Kv.set _ hk0 rfl) fun b hb => ?_
          exact Below.heap_setCell w8 ⟨gk, j, none⟩ (ptr g') b (fun e => by have := hF b hb; have e : b = gk := e; omega)
  · intro b hb
    rw [List.flatten_append] at hb
    rcases List.mem_append.1 hb with hb | hb
    · exact k.fresh b hb
    · simp at hb; have := hF b hb; omega
  · rw [List.flatten_append, List.nodup_append]
    refine ⟨k.nodup, by simpa using hnd, fun x hx y hy => ?_⟩
    simp at hy
    have := (hFlt x hx).1
    have := hF y hy
    omega
  · have he := k.eq
    rw [rest_step hl hlt, ha, hr] at he
    exact he
set_option maxRecDepth 100000 in
set_option maxHeartbeats 4000000 in
/-- An inner node. -/
theorem branch_inner (nodes : List Nd) (gr gm n c deep i : Nat) (A : Option Addr) (root : Int) (lo hi : Bd) (s : Sr) (x : Nd) (w w0 : World) (R : Option (Tr × Sr)) (hR : Rdr w gr gm A n c root s) (hS : Base w0 gr gm A n nodes w) (hx : nodes[i]? = some x) (hm : i ∉ s.M) (hM : s.M.length ≤ 1000000)
    (hl : (if (i : Int) = root then 1 else 2) = least deep) (hgood : Formed deep x ∧ Holds lo hi x.ks) (hd : 1 ≤ deep ∧ deep ≤ 1000000) (hp : s.p ≤ 2048) (f : Nat) (hkids : x.kids.isEmpty = false) (R1 : Option (List Tr × Sr)) (hR1e : R1 = rdK (fun lo hi c s => rd nodes f lo hi (deep + 1) c s) lo hi x.ks x.kids ⟨i :: s.M, s.p, s.L⟩) (hRe : R = R1.map (fun q => (Tr.mk x.ks x.vs q.1, q.2)))
    (hfine : Fine nodes.length ⟨i :: s.M, s.p, s.L⟩) (hfuel : nodes.length ≤ f + (s.M.length + 1)) (hroot : 0 ≤ root ∧ root.toNat ∈ i :: s.M) (hdeep : deep ≤ s.M.length + 1) (hwf : ∀ a ∈ x.kids, -9223372036854775808 ≤ a ∧ a ≤ 9223372036854775807)
    (IH : ∀ (lo hi : Bd) (a : Int) (s : Sr) (w : World), Rdr w gr gm A n c root s → Base w0 gr gm A n nodes w → Ask nodes root f (deep + 1) a s → Calls Try.prog 58 #[ptr gr, .int .i64 a, spanV lo hi, .int .i64 ((deep + 1 : Nat) : Int)] w (BrPost (rd nodes f lo hi (deep + 1) a s) (deep + 1) gr gm A n c root w)) :
    Calls Try.prog 58 #[ptr gr, .int .i64 i, spanV lo hi, .int .i64 deep] w (BrPost R deep gr gm A n c root w) := by
  have hB := below1 w (.cells #[.string (bs lo), .string (bs hi), .bool hi.isSome] 111)
  have hR1 := hR.below hB
  have hS1 := hS.to (Rg.of_below hB)
  have hme := meet_new gr gm n c i A root s nodes x _ w0 hR1 hS1 hx hm hM
  have HB := Lib.hid (Rg.of_below (gr := gr) (gm := gm) hB)
  have HL := Lib.hid hl
  have HGX := Lib.hid hx
  have HS := Lib.hid hS1
  have HFO := Lib.hid (formB_iff.2 hgood.1)
  have HHO := Lib.hid (holdsB_yes hgood.2)
  have HGOOD := Lib.hid hgood
  have HR0 := Lib.hid hR1
  have HBL := Lib.hid (heap_alloc_new w (.cells #[.string (bs lo), .string (bs hi), .bool hi.isSome] 111))
  have hwr := hR.lt
  have hzw : w.heap.size ≠ gr ∧ w.heap.size ≠ gm := ⟨by omega, by omega⟩
  obtain ⟨hd1, hd2⟩ := hd
  have hk4 : x.ks.length ≤ 4 := hgood.1.2.1
  have HF3 := Lib.hid hgood.1.2.2
  have HKI := Lib.hid hkids
  have HRE := Lib.hid hRe
  have HR1E := Lib.hid hR1e
  have HFI := Lib.hid hfine
  have HFU := Lib.hid hfuel
  have HRO := Lib.hid hroot
  have HWF := Lib.hid hwf
  have HIH := Lib.hid IH
  have HDP := Lib.hid hdeep
  have HS0 := Lib.hid hS
  have hnk : x.kids.length = x.ks.length + 1 := by
    have := HF3.out
    rw [hkids, if_neg (by simp)] at this
    exact this.2
  have HNK := Lib.hid hnk
  have hmk := run_nils x.kids.length (by omega)
  have hm5 : x.kids.length ≤ 5 := by omega
  have hkz : ((x.kids.length : Int) == 0) = false := by rw [hnk]; simp; omega
  clear hR hR1 hS hS1 hl hx hm hgood hkids hRe hR1e hfine hfuel hroot hwf IH hnk hdeep
  go_enter Try.func58, Try.ntmps58
  go_wp2_with (first
      | (go_at_call 69; (with_reducible refine hme.mono ?_); rintro e w1 ⟨⟨kA, kc, vA, vc, cA, cc⟩, rfl, hk, hv, hc, hr1, hg1⟩; obtain ⟨adk, rfl⟩ : ∃ ad, cA = some ad := (by obtain ⟨ad, e, _⟩ := hc.at_ (ints_at (l := x.kids) (i := 0) (by rw [HNK.out]; omega)); exact ⟨ad, e⟩); have HR1 := Lib.hid hr1; have HG1 := Lib.hid hg1; have HBL1 := Lib.hid ((hg1.block w.heap.size (by simp) hzw.1 hzw.2).trans HBL.out); have HK1 := Lib.hid (hk.below (HS.out.to hg1).bel); have HV1 := Lib.hid (hv.below (HS.out.to hg1).bel); have HC0 := Lib.hid hc; have HC1 := Lib.hid (hc.below (HS.out.to hg1).bel); have HIF := Lib.hid (isFormed_any gr gm n c i A root _ nodes x _ (hr1.below (below1 w1 (.cells #[.slice kA x.ks.length kc, .slice vA x.vs.length vc, .slice (some adk) x.kids.length cc] 66))) ((HS.out.to hg1).to (Rg.of_below (below1 w1 (.cells #[.slice kA x.ks.length kc, .slice vA x.vs.length vc, .slice (some adk) x.kids.length cc] 66)))).rd HGX.out); clear hr1 hg1 hk hv hc)
      | (go_at_call 70; (with_reducible refine HIF.out.mono ?_); rintro e w2 ⟨rfl, hb2⟩; have HB2 := Lib.hid hb2; rw [HL.out, HFO.out]; have HXB2 := Lib.hid ((hb2.block w.heap.size (by have := heap_lt HBL1.out; simp; omega)).trans ((Below.heap_alloc w1 _ w.heap.size (heap_lt HBL1.out)).trans HBL1.out)); have HNB2 := Lib.hid ((hb2.block w1.heap.size (by simp)).trans (heap_alloc_new w1 (.cells #[.slice kA x.ks.length kc, .slice vA x.vs.length vc, .slice (some adk) x.kids.length cc] 66))); obtain ⟨x0, x1, x2, _, _, _⟩ := three_of HXB2.out; obtain ⟨y0, y1, y2, _, _, _⟩ := three_of HNB2.out; have HK2 := Lib.hid ((HK1.out.below (below1 _ _)).below hb2); have HV2 := Lib.hid ((HV1.out.below (below1 _ _)).below hb2); have HC2 := Lib.hid (((HC1.out.below (below1 _ _)).below hb2)); have HR2 := Lib.hid ((HR1.out.below (below1 w1 (.cells #[.slice kA x.ks.length kc, .slice vA x.vs.length vc, .slice (some adk) x.kids.length cc] 66))).below hb2); have HG2 := Lib.hid (HB.out.trans (HG1.out.trans ((Rg.of_below (below1 _ _)).trans (Rg.of_below hb2)))); have HH := Lib.hid (holds_any lo hi kA x.ks.length kc x.ks w2 rfl HK2.out (by have := HK1.out.le; have := HK1.out.cap; omega)); have hz2 := heap_lt HNB2.out; have hz1 := heap_lt HBL1.out; clear hb2)
      | (go_at_call 71; (with_reducible refine HH.out.mono ?_); rintro e w4 ⟨rfl, hb4⟩; clear x0 x1 x2 y0 y1 y2; have HB4 := Lib.hid hb4; have HXB4 := Lib.hid ((hb4.block w.heap.size (by omega)).trans HXB2.out); have HNB4 := Lib.hid ((hb4.block w1.heap.size hz2).trans HNB2.out); obtain ⟨x0, x1, x2, _, _, _⟩ := three_of HXB4.out; obtain ⟨y0, y1, y2, _, _, _⟩ := three_of HNB4.out; have HK4 := Lib.hid (HK2.out.below hb4); have HV4 := Lib.hid (HV2.out.below hb4); have HC4 := Lib.hid (HC2.out.below hb4); have HR4 := Lib.hid (HR2.out.below hb4); have HG4 := Lib.hid (HG2.out.trans (Rg.of_below hb4)); have hz4 := heap_lt HNB4.out; clear hb4 HB4 HXB2 HNB2 HK2 HV2 HR2 HG2 HH; rw [HHO.out])
      | (go_at_call 57; (with_reducible refine (must_yes _).mono ?_); rintro e w3 ⟨rfl, rfl⟩))
  have hz4w := HG4.out.size
  go_region
  have hb6 : Below w4.heap.size w4 ((w4.alloc (.cells (nils x.kids.length) 67)).alloc (.cells #[.slice kA x.ks.length kc, .slice vA x.vs.length vc, .slice (some ⟨w4.heap.size, 0, none⟩) x.kids.length x.kids.length] 99)).drew := (below2 w4 _ _).drew
  have hg6 : ((w4.alloc (.cells (nils x.kids.length) 67)).alloc (.cells #[.slice kA x.ks.length kc, .slice vA x.vs.length vc, .slice (some ⟨w4.heap.size, 0, none⟩) x.kids.length x.kids.length] 99)).drew.heap[w4.heap.size + 1]? = some (.cells #[.slice kA x.ks.length kc, .slice vA x.vs.length vc, .slice (some ⟨w4.heap.size, 0, none⟩) x.kids.length x.kids.length] 99 (0, 0)) := by
    have := heap_alloc_new (w4.alloc (.cells (nils x.kids.length) 67)) (.cells #[.slice kA x.ks.length kc, .slice vA x.vs.length vc, .slice (some ⟨w4.heap.size, 0, none⟩) x.kids.length x.kids.length] 99)
    rw [World.size_alloc] at this
    exact this
  have hk6 : ((w4.alloc (.cells (nils x.kids.length) 67)).alloc (.cells #[.slice kA x.ks.length kc, .slice vA x.vs.length vc, .slice (some ⟨w4.heap.size, 0, none⟩) x.kids.length x.kids.length] 99)).drew.heap[w4.heap.size]? = some (.cells (nils x.kids.length) 67 (0, 0)) :=
    (Below.heap_alloc _ _ _ (by simp)).trans (heap_alloc_new w4 _)
  have hSt : KidSt nodes f deep gr gm A n c root lo hi x ⟨kA, kc, vA, vc, some adk, cc⟩ w w0 w.heap.size w1.heap.size (w4.heap.size + 1) w4.heap.size ⟨i :: s.M, s.p, s.L⟩ R1 0 ((w4.alloc (.cells (nils x.kids.length) 67)).alloc (.cells #[.slice kA x.ks.length kc, .slice vA x.vs.length vc, .slice (some ⟨w4.heap.size, 0, none⟩) x.kids.length x.kids.length] 99)).drew [] [] [] ⟨i :: s.M, s.p, s.L⟩ :=
    ⟨HR4.out.below hb6, HG4.out.trans (Rg.of_below hb6), (hb6.block _ (by omega)).trans HXB4.out, (hb6.block _ hz4).trans HNB4.out, hg6, hk6, HK4.out.below hb6, HV4.out.below hb6, HC4.out.below hb6, rfl, rfl, rfl, fun i g' t fp e => by simp at e, fun b hb => by simp at hb, by simp, fun e => by omega, HFI.out, More.refl _, hp, by rw [HR1E.out, rest_zero (by rw [HNK.out]; omega)]⟩
  have HST := Lib.hid hSt
  obtain ⟨y0, y1, y2, _, _, _⟩ := three_of hSt.node
  have HZ4 := Lib.hid (And.intro hz4 hz4w)
  clear hb6 hg6 hk6 hSt hmk x0 x1 x2 HXB4 HNB4 HK4 HV4 HC4 HR4
  generalize ((w4.alloc (.cells (nils x.kids.length) 67)).alloc (.cells #[.slice kA x.ks.length kc, .slice vA x.vs.length vc, .slice (some ⟨w4.heap.size, 0, none⟩) x.kids.length x.kids.length] 99)).drew = w6 at HST y0 y1 y2 ⊢
  go_wp2
  go_loopw [11, 12, 49] (fun _ _ iv wr => ∃ (j : Nat) (gs : List Nat) (ts : List Tr) (Fs : List (List Nat)) (sj : Sr), iv = .int .i64 j ∧ j ≤ x.kids.length ∧ KidSt nodes f deep gr gm A n c root lo hi x ⟨kA, kc, vA, vc, some adk, cc⟩ w w0 w.heap.size w1.heap.size (w4.heap.size + 1) w4.heap.size ⟨i :: s.M, s.p, s.L⟩ R1 j wr gs ts Fs sj) (fun _ _ iv _ => x.kids.length - (intOf iv).toNat)
  case atStart => exact ⟨0, [], [], [], _, rfl, by omega, HST.out⟩
  case round =>
    obtain ⟨j, gs, ts, Fs, sj, rfl, hj, hK⟩ := hrel
    have HK := Lib.hid hK
    have hK2 := Lib.hid hK
    clear HST
    by_cases hlt : j < x.kids.length
    · obtain ⟨_, e, q0⟩ := hK.c.at_ (ints_at hlt)
      cases e
      obtain ⟨x0, x1, x2, _, _, _⟩ := three_of hK.span
      obtain ⟨z0, z1, z2, _, _, _⟩ := three_of hK.node
      obtain ⟨b0, b1, b2, _, _, _⟩ := three_of hK.br
      have k0 : wr.cell? ⟨w4.heap.size, j, none⟩ = some (.pointer none) := by
        have h1 := hK.kids
        have h2 := kidsC_at (gs := gs) (m := x.kids.length) (by rw [hK.lg]; exact hlt)
        rw [hK.lg] at h2
        simp [World.cell?, h1, h2]
      have fk : wr.frozen? ⟨w4.heap.size, j, none⟩ = false := by
        have h1 := hK.kids
        simp [World.frozen?, h1]
      have hbs := HS0.out.to hK.rg
      have hml := hK.more.len
      have hask : Ask nodes root f (deep + 1) x.kids[j] sj := ⟨hK.fine, by have := HFU.out; simp at hml; omega, .inr ⟨by omega, HRO.out.1, hK.more.mem HRO.out.2⟩, ⟨by omega, by have := HDP.out; simp at hml; omega⟩, hK.p, HWF.out _ (List.getElem_mem hlt)⟩
      have hcall : ∀ W, Below wr.heap.size wr W → Calls Try.prog 58 #[ptr gr, .int .i64 x.kids[j], partV lo hi x.ks j, .int .i64 ((deep : Int) + 1)] W (BrPost (rd nodes f (lst lo (x.ks.take j)) (hed hi (x.ks.drop j)) (deep + 1) x.kids[j] sj) (deep + 1) gr gm A n c root W) := fun W hb => by
        have := HIH.out (lst lo (x.ks.take j)) (hed hi (x.ks.drop j)) x.kids[j] sj W (hK.rdr.below hb) (hbs.to (Rg.of_below hb)) hask
        push_cast at this
        exact this
      have HCALL := Lib.hid hcall
      have heq := hK.eq
      rw [rest_step HNK.out hlt] at heq
      have HEQ := Lib.hid heq
      have hwf := HWF.out _ (List.getElem_mem hlt)
      have hlt' : (j : Int) < (x.kids.length : Int) := by omega
      have hpart := fun W (hb : Below wr.heap.size wr W) => part_any lo hi kA x.ks.length kc x.ks j W rfl (hK.k.below hb) (by rw [HNK.out] at hlt; omega) (by omega)
      have HPA := Lib.hid hpart
      have hzz := hK.rdr.lt
      have hgz := hK.rg.size
      have hbz := heap_lt hK.br
      have hkz2 := heap_lt hK.kids
      have hnz := heap_lt hK.node
      have hadl := cell_lt q0
      rw [add_block] at hadl
      have hsb : ∀ W W', (W.cell? ⟨w4.heap.size + 1, 2, none⟩ = some (.slice (some ⟨w4.heap.size, 0, none⟩) x.kids.length x.kids.length) ∧ W.cell? ⟨w.heap.size, 0, none⟩ = some (.string (bs lo)) ∧ W.cell? ⟨w.heap.size, 1, none⟩ = some (.string (bs hi)) ∧ W.cell? ⟨w.heap.size, 2, none⟩ = some (.bool hi.isSome) ∧ W.cell? ⟨w1.heap.size, 0, none⟩ = some (.slice kA x.ks.length kc) ∧ W.cell? ⟨w4.heap.size, j, none⟩ = some (.pointer none) ∧ W.frozen? ⟨w4.heap.size, j, none⟩ = false) → Below W.heap.size W W' → (W'.cell? ⟨w4.heap.size + 1, 2, none⟩ = some (.slice (some ⟨w4.heap.size, 0, none⟩) x.kids.length x.kids.length) ∧ W'.cell? ⟨w.heap.size, 0, none⟩ = some (.string (bs lo)) ∧ W'.cell? ⟨w.heap.size, 1, none⟩ = some (.string (bs hi)) ∧ W'.cell? ⟨w.heap.size, 2, none⟩ = some (.bool hi.isSome) ∧ W'.cell? ⟨w1.heap.size, 0, none⟩ = some (.slice kA x.ks.length kc) ∧ W'.cell? ⟨w4.heap.size, j, none⟩ = some (.pointer none) ∧ W'.frozen? ⟨w4.heap.size, j, none⟩ = false) := fun W W' h hb => ⟨cell_keep h.1 hb, cell_keep h.2.1 hb, cell_keep h.2.2.1 hb, cell_keep h.2.2.2.1 hb, cell_keep h.2.2.2.2.1 hb, cell_keep h.2.2.2.2.2.1 hb, (hb.frozen (cell_lt h.2.2.2.2.2.1)).trans h.2.2.2.2.2.2⟩
      have hsg : ∀ W W', (W.cell? ⟨w4.heap.size + 1, 2, none⟩ = some (.slice (some ⟨w4.heap.size, 0, none⟩) x.kids.length x.kids.length) ∧ W.cell? ⟨w.heap.size, 0, none⟩ = some (.string (bs lo)) ∧ W.cell? ⟨w.heap.size, 1, none⟩ = some (.string (bs hi)) ∧ W.cell? ⟨w.heap.size, 2, none⟩ = some (.bool hi.isSome) ∧ W.cell? ⟨w1.heap.size, 0, none⟩ = some (.slice kA x.ks.length kc) ∧ W.cell? ⟨w4.heap.size, j, none⟩ = some (.pointer none) ∧ W.frozen? ⟨w4.heap.size, j, none⟩ = false) → Rg gr gm W W' → (W'.cell? ⟨w4.heap.size + 1, 2, none⟩ = some (.slice (some ⟨w4.heap.size, 0, none⟩) x.kids.length x.kids.length) ∧ W'.cell? ⟨w.heap.size, 0, none⟩ = some (.string (bs lo)) ∧ W'.cell? ⟨w.heap.size, 1, none⟩ = some (.string (bs hi)) ∧ W'.cell? ⟨w.heap.size, 2, none⟩ = some (.bool hi.isSome) ∧ W'.cell? ⟨w1.heap.size, 0, none⟩ = some (.slice kA x.ks.length kc) ∧ W'.cell? ⟨w4.heap.size, j, none⟩ = some (.pointer none) ∧ W'.frozen? ⟨w4.heap.size, j, none⟩ = false) := fun W W' h hb => by
        have q : ∀ (b o : Nat) (v : Value), b ≠ gr → b ≠ gm → W.cell? ⟨b, o, none⟩ = some v → W'.cell? ⟨b, o, none⟩ = some v := fun b o v h1 h2 hv => (cell_of_heap (p := ⟨b, o, none⟩) (hb.block b (cell_lt hv) h1 h2)).trans hv
        refine ⟨q _ _ _ (by omega) (by omega) h.1, q _ _ _ (by omega) (by omega) h.2.1, q _ _ _ (by omega) (by omega) h.2.2.1, q _ _ _ (by omega) (by omega) h.2.2.2.1, q _ _ _ (by omega) (by omega) h.2.2.2.2.1, q _ _ _ (by omega) (by omega) h.2.2.2.2.2.1, (World.frozen?_of_block (a := ⟨w4.heap.size, j, none⟩) (hb.block _ (cell_lt h.2.2.2.2.2.1) (by show w4.heap.size ≠ gr; omega) (by show w4.heap.size ≠ gm; omega))).trans h.2.2.2.2.2.2⟩
      have hS0 : (let W := wr.drew; W.cell? ⟨w4.heap.size + 1, 2, none⟩ = some (.slice (some ⟨w4.heap.size, 0, none⟩) x.kids.length x.kids.length) ∧ W.cell? ⟨w.heap.size, 0, none⟩ = some (.string (bs lo)) ∧ W.cell? ⟨w.heap.size, 1, none⟩ = some (.string (bs hi)) ∧ W.cell? ⟨w.heap.size, 2, none⟩ = some (.bool hi.isSome) ∧ W.cell? ⟨w1.heap.size, 0, none⟩ = some (.slice kA x.ks.length kc) ∧ W.cell? ⟨w4.heap.size, j, none⟩ = some (.pointer none) ∧ W.frozen? ⟨w4.heap.size, j, none⟩ = false) := ⟨b2, x0, x1, x2, z0, k0, fk⟩
      have HSB := Lib.hid hsb
      have HSG := Lib.hid hsg
      have hws : IntKind.i64.wrap ((deep : Int) + 1) = (deep : Int) + 1 := IntWalk.i64_in _ (by omega)
      clear hsb hsg
      clear hcall heq hpart hask hbs hml hK x0 x1 x2 z0 z1 z2 b0 b1 b2 k0 fk
      obtain ⟨a, ha⟩ : ∃ a, x.kids[j] = a := ⟨_, rfl⟩
      rw [ha] at q0 hwf
      have HA := Lib.hid ha
      rw [ha] at HCALL HEQ
      clear ha
      cases hr : rd nodes f (lst lo (x.ks.take j)) (hed hi (x.ks.drop j)) (deep + 1) a sj with
      | none =>
        rw [hr] at HCALL HEQ
        have HNO : Hid (R = none) := Lib.hid (by rw [HRE.out, HEQ.out]; rfl)
        clear hr
        go_upto_region 9 with (fail)
        refine wp_region_held_drew (S := fun W => W.cell? ⟨w4.heap.size + 1, 2, none⟩ = some (.slice (some ⟨w4.heap.size, 0, none⟩) x.kids.length x.kids.length) ∧ W.cell? ⟨w.heap.size, 0, none⟩ = some (.string (bs lo)) ∧ W.cell? ⟨w.heap.size, 1, none⟩ = some (.string (bs hi)) ∧ W.cell? ⟨w.heap.size, 2, none⟩ = some (.bool hi.isSome) ∧ W.cell? ⟨w1.heap.size, 0, none⟩ = some (.slice kA x.ks.length kc) ∧ W.cell? ⟨w4.heap.size, j, none⟩ = some (.pointer none) ∧ W.frozen? ⟨w4.heap.size, j, none⟩ = false) (by kernel_rfl) hS0 (fun hHeld => ?_)
        refine wpAnyH_take (i := 0) (v := ?_) rfl (by kernel_rfl) (by kernel_rfl) (by kernel_rfl) (fun _ _ _ h => h) (Or.inl ⟨by rfl, ?_⟩) hHeld ?_
        rotate_left 1
        · intro W hSw; (try dsimp only at hSw); go_simp; (try with_reducible rfl)
        simp only [Act.put, List.setIfInBounds_toArray, List.set_cons_zero, List.set_cons_succ]
        refine wpAnyH_take (i := 1) (v := ?_) rfl (by kernel_rfl) (by kernel_rfl) (by kernel_rfl) (fun _ _ _ h => h) (Or.inl ⟨by rfl, ?_⟩) hHeld ?_
        rotate_left 1
        · intro W hSw; (try dsimp only at hSw); go_simp; (try with_reducible rfl)
        simp only [Act.put, List.setIfInBounds_toArray, List.set_cons_zero, List.set_cons_succ]
        refine wpAnyH_take (i := 2) (v := ?_) rfl (by kernel_rfl) (by kernel_rfl) (by kernel_rfl) (fun _ _ _ h => h) (Or.inl ⟨by rfl, ?_⟩) hHeld ?_
        rotate_left 1
        · intro W hSw; (try dsimp only at hSw); go_simp; (try with_reducible rfl)
        simp only [Act.put, List.setIfInBounds_toArray, List.set_cons_zero, List.set_cons_succ]
        refine wpAnyH_take (i := 3) (v := ?_) rfl (by kernel_rfl) (by kernel_rfl) (by kernel_rfl) (fun _ _ _ h => h) (Or.inl ⟨by rfl, ?_⟩) hHeld ?_
        rotate_left 1
        · intro W hSw; (try dsimp only at hSw); go_simp; (try with_reducible rfl)
        simp only [Act.put, List.setIfInBounds_toArray, List.set_cons_zero, List.set_cons_succ]
        refine wpAnyH_take (i := 4) (v := ?_) rfl (by kernel_rfl) (by kernel_rfl) (by kernel_rfl) (fun _ _ _ h => h) (Or.inl ⟨by rfl, ?_⟩) hHeld ?_
        rotate_left 1
        · intro W hSw; (try dsimp only at hSw); go_simp; (try with_reducible rfl)
        simp only [Act.put, List.setIfInBounds_toArray, List.set_cons_zero, List.set_cons_succ]
        refine wpAnyH_take (i := 5) (v := ?_) rfl (by kernel_rfl) (by kernel_rfl) (by kernel_rfl) (fun _ _ _ h => h) (Or.inl ⟨by rfl, ?_⟩) hHeld ?_
        rotate_left 1
        · intro W hSw; (try dsimp only at hSw); go_simp; (try with_reducible rfl)
        simp only [Act.put, List.setIfInBounds_toArray, List.set_cons_zero, List.set_cons_succ]
        refine wpAnyH_take (i := 6) (v := ?_) rfl (by kernel_rfl) (by kernel_rfl) (by kernel_rfl) (fun _ _ _ h => h) (Or.inl ⟨by rfl, ?_⟩) hHeld ?_
        rotate_left 1
        · intro W hSw; (try dsimp only at hSw); go_simp; (try with_reducible rfl)
        simp only [Act.put, List.setIfInBounds_toArray, List.set_cons_zero, List.set_cons_succ]
        refine wpAnyH_take (i := 7) (v := ?_) rfl (by kernel_rfl) (by kernel_rfl) (by kernel_rfl) (fun _ _ _ h => h) (Or.inl ⟨by rfl, ?_⟩) hHeld ?_
        rotate_left 1
        · intro W hSw; (try dsimp only at hSw); go_simp; (try with_reducible rfl)
        simp only [Act.put, List.setIfInBounds_toArray, List.set_cons_zero, List.set_cons_succ]
        refine wpAnyH_take (i := 8) (v := ?_) rfl (by kernel_rfl) (by kernel_rfl) (by kernel_rfl) (fun _ _ _ h => h) (Or.inl ⟨by rfl, ?_⟩) hHeld ?_
        rotate_left 1
        · intro W hSw; (try dsimp only at hSw); go_simp; (try with_reducible rfl)
        simp only [Act.put, List.setIfInBounds_toArray, List.set_cons_zero, List.set_cons_succ]
        refine wpAnyH_take (i := 9) (v := ?_) rfl (by kernel_rfl) (by kernel_rfl) (by kernel_rfl) (fun _ _ _ h => h) (Or.inl ⟨by rfl, ?_⟩) hHeld ?_
        rotate_left 1
        · intro W hSw; (try dsimp only at hSw); go_simp; (try with_reducible rfl)
        simp only [Act.put, List.setIfInBounds_toArray, List.set_cons_zero, List.set_cons_succ]
        refine wpAnyH_take (i := 10) (v := ?_) rfl (by kernel_rfl) (by kernel_rfl) (by kernel_rfl) (fun _ _ _ h => h) (Or.inl ⟨by rfl, ?_⟩) hHeld ?_
        rotate_left 1
        · intro W hSw; (try dsimp only at hSw); go_simp; (try with_reducible rfl)
        simp only [Act.put, List.setIfInBounds_toArray, List.set_cons_zero, List.set_cons_succ]
        refine wpAnyH_take (i := 12) (v := ?_) rfl (by kernel_rfl) (by kernel_rfl) (by kernel_rfl) (fun _ _ _ h => h) (Or.inl ⟨by rfl, ?_⟩) hHeld ?_
        rotate_left 1
        · intro W hSw; (try dsimp only at hSw); go_simp; (try with_reducible rfl)
        simp only [Act.put, List.setIfInBounds_toArray, List.set_cons_zero, List.set_cons_succ]
        refine wpAnyH_take (i := 13) (v := ?_) rfl (by kernel_rfl) (by kernel_rfl) (by kernel_rfl) (fun _ _ _ h => h) (Or.inl ⟨by rfl, ?_⟩) hHeld ?_
        rotate_left 1
        · intro W hSw; (try dsimp only at hSw); go_simp; (try with_reducible rfl)
        simp only [Act.put, List.setIfInBounds_toArray, List.set_cons_zero, List.set_cons_succ]
        refine wpAnyH_ready (rs := [11]) (by kernel_rfl) (by simp) ?_
        refine AllReadyH.cons rfl (fun K hK => ?_) ?_
        · go_simp
          go_at_call 73
          (with_reducible refine (HPA.out _ (Below.refl _ _).drew).mono ?_)
          rintro e w7 ⟨rfl, hb⟩
          have hS := HSB.out _ _ hS0 hb
          have HB7 := Lib.hid (thn (Below.refl wr.heap.size wr).drew hb)
          clear hb
          refine hK.out _ _ hS (fun hHeld => ?_)
          clear hK K
          try simp only [Act.put, List.setIfInBounds_toArray, List.set_cons_zero, List.set_cons_succ]
          refine wpAnyH_ready (rs := [14]) (by kernel_rfl) (by simp) ?_
          refine AllReadyH.cons rfl (fun K hK => ?_) ?_
          · go_simp
            go_at_call 58
            (with_reducible refine (HCALL.out _ HB7.out).mono ?_)
            rintro e w8 ⟨rfl, hg⟩
            exact ⟨rfl, BrPost.no HNO.out ((hK2.out.rg.trans (Rg.of_below HB7.out)).trans hg)⟩
          · exact AllReadyH.nil
        · exact AllReadyH.nil
      | some r =>
        obtain ⟨t, s'⟩ := r
        rw [hr] at HCALL
        have HRD := Lib.hid hr
        clear hr HEQ
        go_upto_region 9 with (fail)
        have hT0 : (let W := wr.drew; W.cell? ⟨w4.heap.size + 1, 2, none⟩ = some (.slice (some ⟨w4.heap.size, 0, none⟩) x.kids.length x.kids.length) ∧ W.cell? ⟨w.heap.size, 0, none⟩ = some (.string (bs lo)) ∧ W.cell? ⟨w.heap.size, 1, none⟩ = some (.string (bs hi)) ∧ W.cell? ⟨w.heap.size, 2, none⟩ = some (.bool hi.isSome) ∧ W.cell? ⟨w1.heap.size, 0, none⟩ = some (.slice kA x.ks.length kc)) := ⟨hS0.1, hS0.2.1, hS0.2.2.1, hS0.2.2.2.1, hS0.2.2.2.2.1⟩
        have HSS := Lib.hid (fun (W : World) (g' : Nat) (h : W.cell? ⟨w4.heap.size + 1, 2, none⟩ = some (.slice (some ⟨w4.heap.size, 0, none⟩) x.kids.length x.kids.length) ∧ W.cell? ⟨w.heap.size, 0, none⟩ = some (.string (bs lo)) ∧ W.cell? ⟨w.heap.size, 1, none⟩ = some (.string (bs hi)) ∧ W.cell? ⟨w.heap.size, 2, none⟩ = some (.bool hi.isSome) ∧ W.cell? ⟨w1.heap.size, 0, none⟩ = some (.slice kA x.ks.length kc)) => (show (let W := W.setCell ⟨w4.heap.size, j, none⟩ (ptr g'); W.cell? ⟨w4.heap.size + 1, 2, none⟩ = some (.slice (some ⟨w4.heap.size, 0, none⟩) x.kids.length x.kids.length) ∧ W.cell? ⟨w.heap.size, 0, none⟩ = some (.string (bs lo)) ∧ W.cell? ⟨w.heap.size, 1, none⟩ = some (.string (bs hi)) ∧ W.cell? ⟨w.heap.size, 2, none⟩ = some (.bool hi.isSome) ∧ W.cell? ⟨w1.heap.size, 0, none⟩ = some (.slice kA x.ks.length kc)) from ⟨(World.cell?_setCell_other W _ _ _ (fun e => by injection e with e; omega)).trans h.1, (World.cell?_setCell_other W _ _ _ (fun e => by injection e with e; omega)).trans h.2.1, (World.cell?_setCell_other W _ _ _ (fun e => by injection e with e; omega)).trans h.2.2.1, (World.cell?_setCell_other W _ _ _ (fun e => by injection e with e; omega)).trans h.2.2.2.1, (World.cell?_setCell_other W _ _ _ (fun e => by injection e with e; omega)).trans h.2.2.2.2⟩))
        have HSW := Lib.hid hS0
        clear hS0
        go_region_held3 (fun W => W.cell? ⟨w4.heap.size + 1, 2, none⟩ = some (.slice (some ⟨w4.heap.size, 0, none⟩) x.kids.length x.kids.length) ∧ W.cell? ⟨w.heap.size, 0, none⟩ = some (.string (bs lo)) ∧ W.cell? ⟨w.heap.size, 1, none⟩ = some (.string (bs hi)) ∧ W.cell? ⟨w.heap.size, 2, none⟩ = some (.bool hi.isSome) ∧ W.cell? ⟨w1.heap.size, 0, none⟩ = some (.slice kA x.ks.length kc))
          (first | with_reducible exact hT | with_reducible exact hT0 | with_reducible exact HSS.out _ _ hT | exact HSS.out _ _ hT | assumption)
          ((first
            | (go_at_call 73; (with_reducible refine (HPA.out _ (Below.refl _ _).drew).mono ?_); rintro e w7 ⟨rfl, hb⟩; have HS7 := Lib.hid (HSB.out _ _ HSW.out hb); have hT : (let W := w7; W.cell? ⟨w4.heap.size + 1, 2, none⟩ = some (.slice (some ⟨w4.heap.size, 0, none⟩) x.kids.length x.kids.length) ∧ W.cell? ⟨w.heap.size, 0, none⟩ = some (.string (bs lo)) ∧ W.cell? ⟨w.heap.size, 1, none⟩ = some (.string (bs hi)) ∧ W.cell? ⟨w.heap.size, 2, none⟩ = some (.bool hi.isSome) ∧ W.cell? ⟨w1.heap.size, 0, none⟩ = some (.slice kA x.ks.length kc)) := ⟨HS7.out.1, HS7.out.2.1, HS7.out.2.2.1, HS7.out.2.2.2.1, HS7.out.2.2.2.2.1⟩; have HB7 := Lib.hid (thn (Below.refl wr.heap.size wr).drew hb); clear hb)
            | (go_at_call 58; (with_reducible refine (HCALL.out _ HB7.out).mono ?_); rintro e w8 ⟨g', F', rfl, hN, hF1, hF2, hr3, hg⟩; have HS8 := Lib.hid (HSG.out _ _ HS7.out hg); have hT : (let W := w8; W.cell? ⟨w4.heap.size + 1, 2, none⟩ = some (.slice (some ⟨w4.heap.size, 0, none⟩) x.kids.length x.kids.length) ∧ W.cell? ⟨w.heap.size, 0, none⟩ = some (.string (bs lo)) ∧ W.cell? ⟨w.heap.size, 1, none⟩ = some (.string (bs hi)) ∧ W.cell? ⟨w.heap.size, 2, none⟩ = some (.bool hi.isSome) ∧ W.cell? ⟨w1.heap.size, 0, none⟩ = some (.slice kA x.ks.length kc)) := ⟨HS8.out.1, HS8.out.2.1, HS8.out.2.2.1, HS8.out.2.2.2.1, HS8.out.2.2.2.2.1⟩; have k8 := HS8.out.2.2.2.2.2.1; have f8 := HS8.out.2.2.2.2.2.2; have HN8 := Lib.hid hN; have HF8 := Lib.hid (And.intro hF1 hF2); have HR8 := Lib.hid hr3; have HG8 := Lib.hid hg; clear hN hF1 hF2 hr3 hg)))
        have HK9 := Lib.hid (hK2.out.step hlt HNK.out hd1 HA.out HB7.out HRD.out HN8.out HF8.out.1 HF8.out.2 HR8.out HG8.out (by have := HZ4.out; omega) hwr (fun W hg => HC0.out.below (HS0.out.to hg).bel))
        clear hT hT0 k8 f8
        go_wp2
        go_roundw
        case rel => exact ⟨j + 1, _, _, _, _, by go_num, hlt, HK9.out⟩
        case measure => simp [intOf]; omega
    · obtain rfl : j = x.kids.length := by omega
      obtain ⟨z0, z1, z2, _, _, _⟩ := three_of HK.out.node
      go_wp2
      go_ret
      have hk := HK.out
      have he := hk.eq
      rw [rest_end] at he
      have hR : R = some (.mk x.ks x.vs ts, sj) := by rw [HRE.out, he]; rfl
      have hpos : 0 < x.kids.length := by rw [HNK.out]; omega
      have hL := hk.lL hpos
      have hdeep : deep + 1 ≤ sj.L := kid_deep hpos he HR1E.out hd1
      have e1 : sj.L - deep = (sj.L - (deep + 1)) + 1 := by omega
      have hts : ts ≠ [] := fun e => by have := hk.lt; rw [e] at this; simp at this; omega
      refine BrPost.yes (F := (w4.heap.size + 1) :: Fs.flatten) hR ?_ ?_ ?_ hk.rdr hk.rg
      · rw [e1]
        have hkc : kidsC gs x.kids.length = (ptrs gs).toArray := by unfold kidsC; rw [hk.lg, Nat.sub_self]; simp
        refine ⟨gs, Fs, ⟨kA, kc, vA, vc, some ⟨w4.heap.size, 0, none⟩, x.kids.length⟩, rfl, hts, ⟨?_, hk.k, hk.v, ?_⟩, by rw [hk.lf]; exact hk.lt.symm, hk.tree⟩
        · show wr.heap[w4.heap.size + 1]? = some (.cells #[_, _, .slice (some ⟨w4.heap.size, 0, none⟩) ts.length x.kids.length] _ _)
          rw [hk.lt]; exact hk.br
        · show Rd wr (some ⟨w4.heap.size, 0, none⟩) ts.length x.kids.length (ptrs gs)
          refine ⟨by rw [ptrs_len, hk.lg, hk.lt], by rw [hk.lt]; exact Nat.le_refl _, by omega, (fun e => by cases e), fun ad e j u hj => ?_⟩
          injection e with e
          subst e
          rw [cell_blk hk.kids, hkc]
          simpa using hj
      · intro b hb
        have h4 := HZ4.out.2
        rcases List.mem_cons.1 hb with rfl | hb
        · omega
        · have := hk.fresh b hb; omega
      · rw [List.nodup_cons]
        exact ⟨fun hb => by have := hk.fresh _ hb; omega, hk.nodup⟩
end Go.Proofs.Ytkpjkglheegmgaa
/- A tree read out of a state: the walk of the reader's branch, of root and of read. Conditions: a state that is read in memory. -/
namespace Go.Proofs.Ytkpjkglheegmgaa
open Go.RowKit Go.Maps Go.ChangeMaps Go.MapKept Go.WideShapes
set_option linter.unusedSimpArgs false
set_option linter.unusedVariables false

/-- Numbers that a machine has. -/
def Wfn (nodes : List Nd) : Prop := ∀ x ∈ nodes, ∀ a ∈ x.kids, -9223372036854775808 ≤ a ∧ a ≤ 9223372036854775807
theorem rd_inner {nodes : List Nd} {f : Nat} {lo hi : Bd} {deep : Nat} {a : Int} {s : Sr} {x : Nd} (ha : 0 ≤ a) (hx : nodes[a.toNat]? = some x) (hm : a.toNat ∉ s.M) (hg : Formed deep x ∧ Holds lo hi x.ks) (hk : x.kids.isEmpty = false) :
    rd nodes (f + 1) lo hi deep a s = (rdK (fun lo hi c s => rd nodes f lo hi (deep + 1) c s) lo hi x.ks x.kids ⟨a.toNat :: s.M, s.p, s.L⟩).map (fun q => (Tr.mk x.ks x.vs q.1, q.2)) := by
  rw [rd, if_pos ha, hx]
  simp only
  rw [if_neg hm, if_pos hg, hk, if_neg (by simp)]
  cases rdK (fun lo hi c s => rd nodes f lo hi (deep + 1) c s) lo hi x.ks x.kids ⟨a.toNat :: s.M, s.p, s.L⟩ with
  | none => rfl
  | some q => rfl
theorem branch_any (nodes : List Nd) (gr gm n c : Nat) (A : Option Addr) (root : Int) (w0 : World) (hN : nodes.length ≤ 2048) (hW : Wfn nodes) : ∀ (f deep : Nat) (lo hi : Bd) (a : Int) (s : Sr) (w : World), Rdr w gr gm A n c root s → Base w0 gr gm A n nodes w → Ask nodes root f deep a s →
    Calls Try.prog 58 #[ptr gr, .int .i64 a, spanV lo hi, .int .i64 deep] w (BrPost (rd nodes f lo hi deep a s) deep gr gm A n c root w) := by
  intro f
  induction f with
  | zero =>
    intro deep lo hi a s w hR hB hA
    have hn := hB.st.len
    refine branch_out nodes gr gm n c deep A root lo hi a s w _ hR hB.rd (by rw [rd]) ?_
    by_cases h1 : a < 0 ∨ (n : Int) ≤ a
    · exact .inl h1
    · exact .inr ⟨a.toNat, by omega, by omega, nodup_full hA.fine.1 hA.fine.2 (by have := hA.fuel; omega) _ (by omega)⟩
  | succ f ih =>
    intro deep lo hi a s w hR hB hA
    have hn := hB.st.len
    have hML := nodup_le _ _ hA.fine.1 hA.fine.2
    by_cases h1 : a < 0 ∨ (n : Int) ≤ a
    · refine branch_out nodes gr gm n c deep A root lo hi a s w _ hR hB.rd (rd_none fun x h2 h3 _ _ _ _ => ?_) (.inl h1)
      have := (List.getElem?_eq_some_iff.1 h3).1
      omega
    · have ha : 0 ≤ a := by omega
      obtain ⟨i, rfl⟩ : ∃ i : Nat, a = i := ⟨a.toNat, by omega⟩
      have hi' : i < nodes.length := by omega
      by_cases hm : i ∈ s.M
      · exact branch_out nodes gr gm n c deep A root lo hi i s w _ hR hB.rd (rd_none fun x h2 h3 h4 _ _ _ => h4 (by simpa using hm)) (.inr ⟨i, rfl, by omega, hm⟩)
      · have hx : nodes[i]? = some nodes[i] := List.getElem?_eq_getElem hi'
        have hle := hA.least (by omega) (by simpa using hm)
        simp only [Int.toNat_natCast] at hle
        have hwf := hW nodes[i] (List.getElem_mem hi')
        generalize nodes[i] = x at hx hwf
        have hd := hA.deep
        have hpm := hA.p
        by_cases hg : Formed deep x ∧ Holds lo hi x.ks
        · cases hk : x.kids.isEmpty
          · refine branch_inner nodes gr gm n c deep i A root lo hi s x w w0 _ hR hB hx hm (by omega) hle hg ⟨by omega, by omega⟩ hA.p f hk _ rfl (rd_inner ha (by simpa using hx) (by simpa using hm) hg hk) ?_ (by have := hA.fuel; omega) ?_ hd.2 hwf (fun lo hi a s w h1 h2 h3 => ih (deep + 1) lo hi a s w h1 h2 h3)
            · exact ⟨List.nodup_cons.2 ⟨hm, hA.fine.1⟩, fun y hy => by
                rcases List.mem_cons.1 hy with rfl | hy
                · exact hi'
                · exact hA.fine.2 y hy⟩
            · rcases hA.root with ⟨_, h2⟩ | ⟨_, h2, h3⟩
              · exact ⟨by omega, by rw [← h2]; simp⟩
              · exact ⟨h2, by simp [h3]⟩
          · have hk0 : x.kids = [] := by simpa using hk
            by_cases hl : (s.L = 0 ∨ s.L = deep) ∧ s.p + x.ks.length ≤ 2048
            · refine branch_leaf nodes gr gm n c deep i A root lo hi s x w w0 _ hR hB hx hm (by omega) hle hg ⟨by omega, by omega⟩ hA.p hk0 hl.1 hl.2 ?_
              exact rd_some.2 ⟨ha, x, by simpa using hx, by simpa using hm, hg.1, hg.2, .inl ⟨hk, rdLeaf_some.2 ⟨hl.1, hl.2, by simp⟩⟩⟩
            · refine branch_leaf_no nodes gr gm n c deep i A root lo hi s x w w0 _ hR hB hx hm (by omega) hle hg ⟨by omega, by omega⟩ hA.p hk0 (by omega) ?_
              cases hr : rd nodes (f + 1) lo hi deep i s with
              | none => rfl
              | some r =>
                obtain ⟨_, y, h3, _, _, _, h4⟩ := rd_some.1 hr
                simp only [Int.toNat_natCast] at h3
                rw [hx] at h3
                obtain rfl := Option.some.inj h3
                rcases h4 with ⟨_, h5⟩ | ⟨h5, _⟩
                · obtain ⟨h6, h7, _⟩ := rdLeaf_some.1 h5
                  exact absurd ⟨h6, h7⟩ hl
                · rw [hk] at h5; cases h5
        · refine branch_bad nodes gr gm n c deep i A root lo hi s x w w0 _ hR hB (rd_none fun y h2 h3 _ h5 h6 _ => ?_) hx hm (by omega) hle hg
          simp only [Int.toNat_natCast] at h3
          rw [hx] at h3
          obtain rfl := Option.some.inj h3
          exact hg ⟨h5, h6⟩
end Go.Proofs.Ytkpjkglheegmgaa
/- A tree read out of a state: the walks of the reader's root and of read. Conditions: a state that is read in memory. -/
namespace Go.Proofs.Ytkpjkglheegmgaa
open Go.RowKit Go.Maps Go.ChangeMaps Go.MapKept Go.WideShapes
set_option linter.unusedSimpArgs false
set_option linter.unusedVariables false

theorem below_dn (w : World) (d : Nat) : Below w.heap.size w (w.drewN d) := ⟨rfl, rfl, rfl, Nat.le_refl _, fun _ _ => rfl⟩
/-- What reading a state comes to. -/
def RootPost (R : Option (Nat × Tr)) (gr gm : Nat) (w : World) (e : Ending) (w' : World) : Prop :=
  match R with
  | none => e = .panicked [{ v := .iface 30 (.int .i64 9), recovered := false }] ∧ Rg gr gm w w'
  | some (m, t) => ∃ (g : Nat) (F : List Nat), e = .returned (ptr g) ∧ RdN m w' g t F ∧ (∀ b ∈ F, w.heap.size ≤ b) ∧ F.Nodup ∧ Rg gr gm w w'
theorem RootPost.no {R : Option (Nat × Tr)} (h : R = none) {gr gm : Nat} {w w' : World} (hg : Rg gr gm w w') : RootPost R gr gm w (.panicked [{ v := .iface 30 (.int .i64 9), recovered := false }]) w' := by
  subst h; exact ⟨rfl, hg⟩
theorem RootPost.yes {R : Option (Nat × Tr)} {m : Nat} {t : Tr} (h : R = some (m, t)) {gr gm g : Nat} {F : List Nat} {w w' : World} (h1 : RdN m w' g t F) (h2 : ∀ b ∈ F, w.heap.size ≤ b) (h3 : F.Nodup) (hg : Rg gr gm w w') : RootPost R gr gm w (.returned (ptr g)) w' := by
  subst h; exact ⟨g, F, rfl, h1, h2, h3, hg⟩
theorem rdS_no {nodes : List Nd} {root : Int} (h : nodes ≠ []) (h1 : rd nodes nodes.length none none 1 root ⟨[], 0, 0⟩ = none) : rdS nodes root = none := by
  unfold rdS
  rw [if_neg (by simpa using h), h1]
theorem rdS_few {nodes : List Nd} {root : Int} {t : Tr} {s : Sr} (h : nodes ≠ []) (h1 : rd nodes nodes.length none none 1 root ⟨[], 0, 0⟩ = some (t, s)) (h2 : s.M.length ≠ nodes.length) : rdS nodes root = none := by
  unfold rdS
  rw [if_neg (by simpa using h), h1]
  simp [h2]
theorem rdS_yes {nodes : List Nd} {root : Int} {t : Tr} {s : Sr} (h : nodes ≠ []) (h1 : rd nodes nodes.length none none 1 root ⟨[], 0, 0⟩ = some (t, s)) (h2 : s.M.length = nodes.length) : rdS nodes root = some (s.L - 1, t) := by
  unfold rdS
  rw [if_neg (by simpa using h), h1]
  simp [h2]
set_option maxRecDepth 100000 in
set_option maxHeartbeats 4000000 in
theorem root_none (nodes : List Nd) (gr gm n c : Nat) (A : Option Addr) (root : Int) (w : World) (R : Option (Nat × Tr)) (hRe : R = rdS nodes root) (hR : Rdr w gr gm A n c root ⟨[], 0, 0⟩) (hS : RdS w A n nodes) (h0 : nodes = []) :
    Calls Try.prog 42 #[ptr gr] w (RootPost R gr gm w) := by
  subst h0
  have hn0 : n = 0 := hS.len
  subst hn0
  obtain ⟨r0, r1, r2, r3, r4⟩ := hR.cells
  have hgr := hR.lt.1
  have HRE := Lib.hid hRe
  clear hR hS hRe
  by_cases hr : root = -1
  · subst hr
    have HS : Hid (R = some (0, noT)) := Lib.hid (by rw [HRE.out]; simp [rdS])
    go_enter Try.func42, Try.ntmps42
    go_wp2_with (go_at_call 57; (with_reducible refine (must_yes _).mono ?_); rintro e w3 ⟨rfl, rfl⟩)
    go_ret
    have hB := below1 w (.cells #[.slice none 0 0, .slice none 0 0, .slice none 0 0] 99)
    refine RootPost.yes (F := [w.heap.size]) HS.out ⟨rfl, rfl, ⟨none, 0, none, 0, none, 0⟩, ⟨heap_alloc_new w _, Rd.nothing _, Rd.nothing _, Rd.nothing _⟩⟩ (fun b hb => by simp at hb; omega) (by simp) (Rg.of_below hB)
  · have HS : Hid (R = none) := Lib.hid (by rw [HRE.out]; simp [rdS, hr])
    have hr' : (root == -1) = false := by simpa using hr
    clear hr
    go_enter Try.func42, Try.ntmps42
    go_wp2_with (go_at_call 57; (with_reducible refine (must_no _).mono ?_); rintro e w3 ⟨rfl, rfl⟩)
    exact ⟨rfl, RootPost.no HS.out Rg.refl⟩
set_option maxRecDepth 100000 in
set_option maxHeartbeats 4000000 in
theorem root_many (nodes : List Nd) (gr gm n c : Nat) (A : Option Addr) (root : Int) (w : World) (R : Option (Nat × Tr)) (hno : R = none) (hR : Rdr w gr gm A n c root ⟨[], 0, 0⟩) (hS : RdS w A n nodes) (h0 : 2048 < nodes.length) :
    Calls Try.prog 42 #[ptr gr] w (RootPost R gr gm w) := by
  have hn := hS.len
  have hmx := hS.max
  obtain ⟨r0, r1, r2, r3, r4⟩ := hR.cells
  have hgr := hR.lt.1
  have HNO := Lib.hid hno
  clear hR hS hno
  have h1 : ¬ (n : Int) ≤ 2048 := by omega
  have h2 : ((n : Int) == 0) = false := by simp; omega
  have d1 : decide ((n : Int) ≤ 2048) = false := decide_eq_false h1
  clear hn h0
  go_enter Try.func42, Try.ntmps42
  go_wp2_with (go_at_call 57; (with_reducible refine (must_no _).mono ?_); rintro e w3 ⟨rfl, rfl⟩)
  exact ⟨rfl, RootPost.no HNO.out Rg.refl⟩
set_option maxRecDepth 100000 in
set_option maxHeartbeats 4000000 in
theorem root_some (nodes : List Nd) (gr gm n c : Nat) (A : Option Addr) (root : Int) (w w0 : World) (R : Option (Nat × Tr)) (hRe : R = rdS nodes root) (hR : Rdr w gr gm A n c root ⟨[], 0, 0⟩) (hB : Base w0 gr gm A n nodes w) (h0 : nodes ≠ []) (hN : nodes.length ≤ 2048) (hW : Wfn nodes) (hr : -9223372036854775808 ≤ root ∧ root ≤ 9223372036854775807) :
    Calls Try.prog 42 #[ptr gr] w (RootPost R gr gm w) := by
  have hn := hB.st.len
  have hpos : 0 < nodes.length := by cases nodes with | nil => exact absurd rfl h0 | cons _ _ => simp
  obtain ⟨r0, r1, r2, r3, r4⟩ := hR.cells
  have hgr := hR.lt.1
  have hcall : Calls Try.prog 58 #[ptr gr, .int .i64 root, .agg #[.string ⟨#[]⟩, .string ⟨#[]⟩, .bool false], .int .i64 1] w (BrPost (rd nodes nodes.length none none 1 root ⟨[], 0, 0⟩) 1 gr gm A n c root w) :=
    branch_any nodes gr gm n c A root w0 hN hW nodes.length 1 none none root ⟨[], 0, 0⟩ w hR hB ⟨⟨List.nodup_nil, fun x hx => by simp at hx⟩, by simp, .inl ⟨rfl, rfl⟩, ⟨by omega, by simp⟩, by simp, hr⟩
  have h1 : (n : Int) ≤ 2048 := by omega
  have h2 : ((n : Int) == 0) = false := by simp; omega
  have d1 : decide ((n : Int) ≤ 2048) = true := decide_eq_true h1
  have HN := Lib.hid hn
  have H0 := Lib.hid h0
  have HRE := Lib.hid hRe
  clear hR hB h0 hpos hRe hn
  cases hrd : rd nodes nodes.length none none 1 root ⟨[], 0, 0⟩ with
  | none =>
    rw [hrd] at hcall
    have HNO := Lib.hid (HRE.out.trans (rdS_no H0.out hrd))
    clear hrd
    go_enter Try.func42, Try.ntmps42
    go_wp2_with (first | (go_at_call 57; (with_reducible refine (must_yes _).mono ?_); rintro e w3 ⟨rfl, rfl⟩) | (go_at_call 58; refine hcall.mono ?_; rintro e w4 ⟨rfl, hg⟩))
    exact ⟨rfl, RootPost.no HNO.out hg⟩
  | some r =>
    obtain ⟨t, s⟩ := r
    have hfine := (rd_met nodes _ _ _ _ _ _ _ _ hrd ⟨List.nodup_nil, fun x hx => by simp at hx⟩).1
    rw [hrd] at hcall
    have HFI := Lib.hid hfine
    have HRD := Lib.hid hrd
    clear hrd hfine
    by_cases hml : s.M.length = nodes.length
    · have HML := Lib.hid hml
      have hq : ((s.M.length : Int) == (n : Int)) = true := by rw [HN.out, hml]; simp
      clear hml
      go_enter Try.func42, Try.ntmps42
      go_wp2_with (first | (go_at_call 57; (with_reducible refine (must_yes _).mono ?_); rintro e w3 ⟨rfl, rfl⟩) | (go_at_call 58; refine hcall.mono ?_; rintro e w4 ⟨g, F, rfl, hN4, hF4, hd4, hr4, hg4⟩; have HR4 := Lib.hid hr4; have HG4 := Lib.hid hg4; have HT4 := Lib.hid (And.intro hN4 (And.intro hF4 hd4)); clear hr4 hg4 hN4 hF4 hd4))
      clear r0 r1 r2 r3 r4
      obtain ⟨r0, r1, r2, r3, r4⟩ := HR4.out.cells
      have hlen : ∀ (d : Nat) (ty : TypeId), (Builtin.len_ #[88] ty #[.map (some gm)]).run Try.prog (w4.drewN d) = .ok (.int .i64 s.M.length) (w4.drewN d) := fun d ty => by
        have hm : IsSet (w4.drewN d) gm s.M := HR4.out.met
        have := World.ownsMap.len hm Try.underlying88 ty
        rw [mapD_size _ HFI.out.1] at this
        exact this
      go_quiet ((go_at_call 57; exact Calls.quiet_of_same ((must_yes _).mono fun e w' h => ⟨h.1, h.2.symm⟩)))
      go_wp2
      go_ret
      exact RootPost.yes (HRE.out.trans (rdS_yes H0.out HRD.out HML.out)) (HT4.out.1.below (below_dn _ _)) HT4.out.2.1 HT4.out.2.2 (HG4.out.trans (Rg.of_below (below_dn _ _)))
    · have HML := Lib.hid hml
      have hq : ((s.M.length : Int) == (n : Int)) = false := by rw [HN.out]; simp; omega
      clear hml
      go_enter Try.func42, Try.ntmps42
      go_wp2_with (first | (go_at_call 57; (with_reducible refine (must_yes _).mono ?_); rintro e w3 ⟨rfl, rfl⟩) | (go_at_call 58; refine hcall.mono ?_; rintro e w4 ⟨g, F, rfl, hN4, hF4, hd4, hr4, hg4⟩; have HR4 := Lib.hid hr4; have HG4 := Lib.hid hg4; clear hr4 hg4 hN4 hF4 hd4))
      clear r0 r1 r2 r3 r4
      obtain ⟨r0, r1, r2, r3, r4⟩ := HR4.out.cells
      have hlen : ∀ (ty : TypeId), (Builtin.len_ #[88] ty #[.map (some gm)]).run Try.prog w4.drew = .ok (.int .i64 s.M.length) w4.drew := fun ty => by
        have hm : IsSet w4.drew gm s.M := HR4.out.met
        have := World.ownsMap.len hm Try.underlying88 ty
        rw [mapD_size _ HFI.out.1] at this
        exact this
      have hS0 : w4.drew.cell? ⟨gr, 0, none⟩ = some (.slice A n c) ∧ w4.drew.cell? ⟨gr, 2, none⟩ = some (.map (some gm)) ∧ w4.drew = w4.drew := ⟨r0, r2, rfl⟩
      refine wp_region_held_drew (S := fun W => W.cell? ⟨gr, 0, none⟩ = some (.slice A n c) ∧ W.cell? ⟨gr, 2, none⟩ = some (.map (some gm)) ∧ W = w4.drew) (by kernel_rfl) hS0 (fun hHeld => ?_)
      refine wpAnyH_take (i := 0) (v := ?_) rfl (by kernel_rfl) (by kernel_rfl) (by kernel_rfl) (fun _ _ _ h => h) (Or.inl ⟨by rfl, ?_⟩) hHeld ?_
      rotate_left 1
      · intro W hSw; (try dsimp only at hSw); go_simp; (try with_reducible rfl)
      simp only [Act.put, List.setIfInBounds_toArray, List.set_cons_zero, List.set_cons_succ]
      refine wpAnyH_take (i := 1) (v := ?_) rfl (by kernel_rfl) (by kernel_rfl) (by kernel_rfl) (fun _ _ _ h => h) (Or.inl ⟨by rfl, ?_⟩) hHeld ?_
      rotate_left 1
      · intro W hSw; (try dsimp only at hSw); go_simp; (try with_reducible rfl)
      simp only [Act.put, List.setIfInBounds_toArray, List.set_cons_zero, List.set_cons_succ]
      refine wpAnyH_take (i := 2) (v := ?_) rfl (by kernel_rfl) (by kernel_rfl) (by kernel_rfl) (fun _ _ _ h => h) (Or.inl ⟨by rfl, ?_⟩) hHeld ?_
      rotate_left 1
      · intro W hSw; (try dsimp only at hSw); go_simp; (try with_reducible rfl)
      simp only [Act.put, List.setIfInBounds_toArray, List.set_cons_zero, List.set_cons_succ]
      refine wpAnyH_take (i := 3) (v := ?_) rfl (by kernel_rfl) (by kernel_rfl) (by kernel_rfl) (fun _ _ _ h => h) (Or.inl ⟨by rfl, ?_⟩) hHeld ?_
      rotate_left 1
      · intro W hSw; (try dsimp only at hSw); go_simp; (try with_reducible rfl)
      simp only [Act.put, List.setIfInBounds_toArray, List.set_cons_zero, List.set_cons_succ]
      refine wpAnyH_take (i := 4) (v := ?_) rfl (by kernel_rfl) (by kernel_rfl) (by kernel_rfl) (fun _ _ _ h => h) (Or.inl ⟨by rfl, ?_⟩) hHeld ?_
      rotate_left 1
      · intro W hSw; (try dsimp only at hSw); go_simp; (try with_reducible rfl)
      simp only [Act.put, List.setIfInBounds_toArray, List.set_cons_zero, List.set_cons_succ]
      refine wpAnyH_take (i := 5) (v := ?_) rfl (by kernel_rfl) (by kernel_rfl) (by kernel_rfl) (fun _ _ _ h => h) (Or.inl ⟨by rfl, ?_⟩) hHeld ?_
      rotate_left 1
      · intro W hSw; (try dsimp only at hSw); go_simp; (try with_reducible rfl)
      simp only [Act.put, List.setIfInBounds_toArray, List.set_cons_zero, List.set_cons_succ]
      refine wpAnyH_take (i := 6) (v := ?_) rfl (by kernel_rfl) (by kernel_rfl) (by kernel_rfl) (fun _ _ _ h => h) (Or.inl ⟨by rfl, ?_⟩) hHeld ?_
      rotate_left 1
      · intro W hSw; (try dsimp only at hSw); go_simp; (try with_reducible rfl)
      simp only [Act.put, List.setIfInBounds_toArray, List.set_cons_zero, List.set_cons_succ]
      refine wpAnyH_take (i := 7) (v := ?_) rfl (by kernel_rfl) (by kernel_rfl) (by kernel_rfl) (fun _ _ _ h => h) (Or.inl ⟨by rfl, ?_⟩) hHeld ?_
      rotate_left 1
      · intro W hSw; (try dsimp only at hSw); go_simp; (try with_reducible rfl)
      simp only [Act.put, List.setIfInBounds_toArray, List.set_cons_zero, List.set_cons_succ]
      refine wpAnyH_take (i := 8) (v := ?_) rfl (by kernel_rfl) (by kernel_rfl) (by kernel_rfl) (fun _ _ _ h => h) (Or.inl ⟨by rfl, ?_⟩) hHeld ?_
      rotate_left 1
      · intro W hSw; (try dsimp only at hSw); go_simp; (try with_reducible rfl)
      simp only [Act.put, List.setIfInBounds_toArray, List.set_cons_zero, List.set_cons_succ]
      refine wpAnyH_take (i := 9) (v := ?_) rfl (by kernel_rfl) (by kernel_rfl) (by kernel_rfl) (fun _ _ _ h => h) (Or.inl ⟨by rfl, ?_⟩) hHeld ?_
      rotate_left 1
      · intro W hSw; (try dsimp only at hSw); go_simp; (try with_reducible rfl)
      simp only [Act.put, List.setIfInBounds_toArray, List.set_cons_zero, List.set_cons_succ]
      refine wpAnyH_take (i := 10) (v := ?_) rfl (by kernel_rfl) (by kernel_rfl) (by kernel_rfl) (fun _ _ _ h => h) (Or.inl ⟨by rfl, ?_⟩) hHeld ?_
      rotate_left 1
      · intro W hSw; (try dsimp only at hSw); go_simp; (try with_reducible rfl)
      simp only [Act.put, List.setIfInBounds_toArray, List.set_cons_zero, List.set_cons_succ]
      refine wpAnyH_take (i := 11) (v := ?_) rfl (by kernel_rfl) (by kernel_rfl) (by kernel_rfl) (fun _ _ _ h => h) (Or.inl ⟨by rfl, ?_⟩) hHeld ?_
      rotate_left 1
      · intro W hSw; (try dsimp only at hSw); go_simp; (try with_reducible rfl)
      simp only [Act.put, List.setIfInBounds_toArray, List.set_cons_zero, List.set_cons_succ]
      refine wpAnyH_ready (rs := [12]) (by kernel_rfl) (by simp) ?_
      refine AllReadyH.cons rfl (fun K hK => ?_) ?_
      · go_simp
        go_at_call 57
        (with_reducible refine (must_no _).mono ?_)
        rintro e w3 ⟨rfl, rfl⟩
        exact ⟨rfl, RootPost.no (HRE.out.trans (rdS_few H0.out HRD.out HML.out)) (HG4.out.trans (Rg.of_below (below_dn w4 1)))⟩
      · exact AllReadyH.nil
end Go.Proofs.Ytkpjkglheegmgaa
namespace Go.Proofs.Ytkpjkglheegmgaa
open Go.RowKit Go.Maps Go.ChangeMaps Go.MapKept Go.WideShapes
set_option linter.unusedSimpArgs false
set_option linter.unusedVariables false

theorem root_any (nodes : List Nd) (gr gm n c : Nat) (A : Option Addr) (root : Int) (w w0 : World) (hR : Rdr w gr gm A n c root ⟨[], 0, 0⟩) (hB : Base w0 gr gm A n nodes w) (hW : Wfn nodes) (hr : -9223372036854775808 ≤ root ∧ root ≤ 9223372036854775807) :
    Calls Try.prog 42 #[ptr gr] w (RootPost (rdS nodes root) gr gm w) := by
  by_cases h0 : nodes = []
  · exact root_none nodes gr gm n c A root w _ rfl hR hB.rd h0
  · by_cases h1 : nodes.length ≤ 2048
    · exact root_some nodes gr gm n c A root w w0 _ rfl hR hB h0 h1 hW hr
    · refine root_many nodes gr gm n c A root w _ ?_ hR hB.rd (by omega)
      cases h : rdS nodes root with
      | none => rfl
      | some r =>
        obtain ⟨m, t⟩ := r
        exact absurd (rdS_ok h).2.2.1 h1

theorem catch_idle (p q : Addr) (w : World) :
    CallsD Try.prog 41 #[.pointer (some p), .pointer (some q)] .returning w fun e u' w' => e = .returned (.tuple #[]) ∧ u' = .returning ∧ w' = w := by
  refine callsD_of_wpS Try.func41 rfl fun c₀ cs hu => ?_
  apply wpS_seq
  apply wpS_region
  simp [wpOpsS, go_sem, recoverD, hu, Try.ntmps41, Exit.thenS]
  apply wpS_seq
  apply wpS_region
  simp [wpOpsS, go_sem, recoverD, hu, Try.ntmps41, Exit.thenS, Array.replicate]
  refine wpS_cond (t := false) (by simp [Act.eval, Array.replicate]) ?_
  simp only [Bool.false_eq_true, if_false]
  refine wpS_of_wp (wp_skip ?_)
  cases c₀
  simp_all [bodyPostS, results, Try.results41]
theorem assertE (x : Int) (w : World) : (Instr.typeAssert (.iface 30 (.int .i64 x)) 20 30 false).run Try.prog w = .ok (.int .i64 x) w := by kernel_rfl
theorem catch_dies (b : Nat) (x : Int) (older : List PanicEntry) (w : World) (v : Value) (y : Int) (h0 : w.cell? ⟨b, 0, none⟩ = some v) (f0 : w.frozen? ⟨b, 0, none⟩ = false) (h1 : w.cell? ⟨b + 1, 0, none⟩ = some (.int .i64 y)) (f1 : w.frozen? ⟨b + 1, 0, none⟩ = false) :
    CallsD Try.prog 41 #[.pointer (some ⟨b, 0, none⟩), .pointer (some ⟨b + 1, 0, none⟩)] (.panicking ({ v := .iface 30 (.int .i64 x), recovered := false } :: older)) w fun e u' w' =>
      e = .returned (.tuple #[]) ∧ u' = .panicking ({ v := .iface 30 (.int .i64 x), recovered := true } :: older) ∧ w' = ((w.setCell ⟨b, 0, none⟩ (.pointer none)).setCell ⟨b + 1, 0, none⟩ (.int .i64 x)).drew := by
  have hta := assertE x
  refine callsD_of_wpS Try.func41 rfl fun c₀ cs hu => ?_
  apply wpS_seq
  apply wpS_region
  simp [wpOpsS, go_sem, recoverD, hu, Try.ntmps41, Exit.thenS]
  apply wpS_seq
  apply wpS_region
  simp [wpOpsS, go_sem, recoverD, hu, Try.ntmps41, Exit.thenS, Array.replicate]
  refine wpS_cond (t := true) (by simp [Act.eval, Array.replicate]) ?_
  simp only [if_true]
  refine wpS_of_wp ?_
  go_region
  all_goals simp [bodyPostS, results, Try.results41]
/-- What read answers: a tree in memory of the call's own, or an error's number. -/
def ReadPost (R : Option (Nat × Tr)) (w : World) (e : Ending) (w' : World) : Prop :=
  match R with
  | none => e = .returned (.tuple #[.pointer none, .int .i64 9]) ∧ Below w.heap.size w w'
  | some (m, t) => ∃ (g : Nat) (F : List Nat), e = .returned (.tuple #[ptr g, .int .i64 0]) ∧ RdN m w' g t F ∧ (∀ b ∈ F, w.heap.size ≤ b) ∧ F.Nodup ∧ Below w.heap.size w w'
theorem ReadPost.no {R : Option (Nat × Tr)} (h : R = none) {w w' : World} (hg : Below w.heap.size w w') : ReadPost R w (.returned (.tuple #[.pointer none, .int .i64 9])) w' := by
  subst h; exact ⟨rfl, hg⟩
theorem ReadPost.yes {R : Option (Nat × Tr)} {m : Nat} {t : Tr} (h : R = some (m, t)) {g : Nat} {F : List Nat} {w w' : World} (h1 : RdN m w' g t F) (h2 : ∀ b ∈ F, w.heap.size ≤ b) (h3 : F.Nodup) (hg : Below w.heap.size w w') : ReadPost R w (.returned (.tuple #[ptr g, .int .i64 0])) w' := by
  subst h; exact ⟨g, F, rfl, h1, h2, h3, hg⟩
/-- Block b holds one cell. -/
def One (w : World) (b : Nat) (t : TypeId) (v : Value) : Prop := w.heap[b]? = some (.cells #[v] t (0, 0))
theorem One.cells {w : World} {b : Nat} {t : TypeId} {v : Value} (h : One w b t v) : w.cell? ⟨b, 0, none⟩ = some v ∧ w.frozen? ⟨b, 0, none⟩ = false := by
  unfold One at h
  refine ⟨?_, ?_⟩ <;> simp [World.cell?, World.frozen?, h]
theorem One.set {w : World} {b : Nat} {t : TypeId} {v : Value} (h : One w b t v) (u : Value) : One (w.setCell ⟨b, 0, none⟩ u) b t u := by
  have := heap_setCell_same w b 0 #[v] t u h
  unfold One
  rw [this]; rfl
set_option maxHeartbeats 8000000 in
set_option maxRecDepth 100000 in
theorem read_any (nodes : List Nd) (n c : Nat) (A : Option Addr) (root : Int) (w : World) (hS : RdS w A n nodes) (hW : Wfn nodes) (hr : -9223372036854775808 ≤ root ∧ root ≤ 9223372036854775807) :
    Calls Try.prog 26 #[.agg #[.slice A n c, .int .i64 root]] w (ReadPost (rdS nodes root) w) := by
  have hmf : ∀ (fn : Fn) (first cap : Array Value) (w : World), (Instr.makeFunc fn first cap).run Try.prog w = .ok (.func fn first cap) w := fun _ _ _ _ => rfl
  have hmm := @run_makeMap Try.prog
  have HS := Lib.hid hS
  have HW := Lib.hid hW
  have HR := Lib.hid hr
  clear hS hW hr
  go_enter_defers Try.func26, Try.ntmps26
  go_upto_region 3 with (fail)
  have h5 : ∃ W5, W5 = (((((w.alloc (.cells #[.slice A n c, .int .i64 root] 27)).alloc (.cells #[.pointer none] 67)).alloc (.cells #[.int .i64 0] 30)).alloc (.map #[] 0)).alloc (.cells #[.slice A n c, .int .i64 root, .map (some (w.heap.size + 1 + 1 + 1)), .int .i64 0, .int .i64 0] 90)) := ⟨_, rfl⟩
  obtain ⟨W5, hW5⟩ := h5
  rw [← hW5]
  have hb5 : Below w.heap.size w W5 := by
    rw [hW5]
    exact ((((below1 w _).alloc (by simp) _).alloc (by simp; omega) _).alloc (by simp; omega) _).alloc (by simp; omega) _
  have hz5 : W5.heap.size = w.heap.size + 5 := by rw [hW5]; simp
  have o1 : One W5 (w.heap.size + 1) 67 (.pointer none) := by
    rw [hW5]
    have := heap_alloc_new (w.alloc (.cells #[.slice A n c, .int .i64 root] 27)) (.cells #[.pointer none] 67)
    rw [World.size_alloc] at this
    exact (Below.heap_alloc _ _ _ (by first | (simp; done) | (simp; omega))).trans ((Below.heap_alloc _ _ _ (by first | (simp; done) | (simp; omega))).trans ((Below.heap_alloc _ _ _ (by simp)).trans this))
  have o2 : One W5 (w.heap.size + 1 + 1) 30 (.int .i64 0) := by
    rw [hW5]
    have := heap_alloc_new ((w.alloc (.cells #[.slice A n c, .int .i64 root] 27)).alloc (.cells #[.pointer none] 67)) (.cells #[.int .i64 0] 30)
    rw [World.size_alloc, World.size_alloc] at this
    exact (Below.heap_alloc _ _ _ (by first | (simp; done) | (simp; omega))).trans ((Below.heap_alloc _ _ _ (by simp)).trans this)
  have hrd : Rdr W5 (w.heap.size + 1 + 1 + 1 + 1) (w.heap.size + 1 + 1 + 1) A n c root ⟨[], 0, 0⟩ := by
    rw [hW5]
    refine ⟨?_, ?_⟩
    · have := heap_alloc_new ((((w.alloc (.cells #[.slice A n c, .int .i64 root] 27)).alloc (.cells #[.pointer none] 67)).alloc (.cells #[.int .i64 0] 30)).alloc (.map #[] 0)) (.cells #[.slice A n c, .int .i64 root, .map (some (w.heap.size + 1 + 1 + 1)), .int .i64 0, .int .i64 0] 90)
      rw [World.size_alloc, World.size_alloc, World.size_alloc, World.size_alloc] at this
      exact this
    · have := World.ownsMap_made ((((w.alloc (.cells #[.slice A n c, .int .i64 root] 27)).alloc (.cells #[.pointer none] 67)).alloc (.cells #[.int .i64 0] 30))) Try.prog 3 (unitElem (H := Unit))
      rw [World.size_alloc, World.size_alloc, World.size_alloc] at this
      exact World.ownsMap.alloc this _
  have hbase : Base w (w.heap.size + 1 + 1 + 1 + 1) (w.heap.size + 1 + 1 + 1) A n nodes W5 := ⟨HS.out, hb5, by omega, by omega⟩
  have hroot := root_any nodes _ _ n c A root W5 w hrd hbase HW.out HR.out
  have HB5 := Lib.hid hb5
  have HO := Lib.hid (And.intro o1 o2)
  have HZ := Lib.hid hz5
  clear hW5 hb5 o1 o2 hrd hbase hmm hz5
  have hgw : ∀ (w1 : World), Rg (w.heap.size + 1 + 1 + 1 + 1) (w.heap.size + 1 + 1 + 1) W5 w1 → Below w.heap.size w w1 ∧ One w1 (w.heap.size + 1) 67 (.pointer none) ∧ One w1 (w.heap.size + 1 + 1) 30 (.int .i64 0) := fun w1 hG =>
    ⟨HB5.out.trans (hG.below (by omega) (by omega) (by have := HZ.out; omega)), (hG.block _ (by have := HZ.out; omega) (by omega) (by omega)).trans HO.out.1, (hG.block _ (by have := HZ.out; omega) (by omega) (by omega)).trans HO.out.2⟩
  have HGW := Lib.hid hgw
  clear hgw
  cases hR0 : rdS nodes root with
  | none =>
    rw [hR0] at hroot
    have HR0 := Lib.hid hR0
    clear hR0
    go_wp2_with (go_at_call 42; refine hroot.mono ?_; rintro e w1 ⟨rfl, hG⟩)
    obtain ⟨hB, o1, o2⟩ := HGW.out _ hG
    obtain ⟨p0, q0⟩ := o1.cells
    obtain ⟨p1, q1⟩ := o2.cells
    refine leaves_cons (f := 41) (args := #[.pointer (some ⟨w.heap.size + 1, 0, none⟩), .pointer (some ⟨w.heap.size + 1 + 1, 0, none⟩)]) (by simp) (by simp [go_sem]) ?_
    refine (catch_dies (w.heap.size + 1) 9 [] w1 _ 0 p0 q0 p1 q1).mono ?_
    rintro e u' w'' ⟨rfl, rfl, rfl⟩
    simp [Leaves, settle, results, Try.results26, go_sem, p0, p1]
    exact ReadPost.no rfl ((hB.setCell (p := ⟨w.heap.size + 1, 0, none⟩) (by simp) _).setCell (p := ⟨w.heap.size + 1 + 1, 0, none⟩) (by simp; omega) _).drew
  | some r =>
    obtain ⟨m, t⟩ := r
    rw [hR0] at hroot
    have HR0 := Lib.hid hR0
    clear hR0
    go_wp2_with (go_at_call 42; refine hroot.mono ?_; rintro e w1 ⟨g, F, rfl, hN, hF, hd, hG⟩; obtain ⟨hB, o1, o2⟩ := HGW.out _ hG; obtain ⟨p0, q0⟩ := o1.cells; obtain ⟨p1, q1⟩ := o2.cells; have HT := Lib.hid (And.intro hN (And.intro hF (And.intro hd hB))); have HOO := Lib.hid (And.intro o1 o2); clear hN hF hd hG hB o1 o2)
    have x1 := (HOO.out.1).set (ptr g)
    have y1 : One (w1.setCell ⟨w.heap.size + 1, 0, none⟩ (ptr g)) (w.heap.size + 1 + 1) 30 (.int .i64 0) := (Below.heap_setCell _ _ _ _ (by simp)).trans HOO.out.2
    have y2 := y1.set (.int .i64 0)
    have x2 : One ((w1.setCell ⟨w.heap.size + 1, 0, none⟩ (ptr g)).setCell ⟨w.heap.size + 1 + 1, 0, none⟩ (.int .i64 0)) (w.heap.size + 1) 67 (ptr g) := (Below.heap_setCell _ _ _ _ (by simp)).trans x1
    have z1 := x2.cells.1
    have z2 := y2.cells.1
    refine leaves_cons (f := 41) (args := #[.pointer (some ⟨w.heap.size + 1, 0, none⟩), .pointer (some ⟨w.heap.size + 1 + 1, 0, none⟩)]) (by simp) (by simp [go_sem]) ?_
    refine (catch_idle ⟨w.heap.size + 1, 0, none⟩ ⟨w.heap.size + 1 + 1, 0, none⟩ _).mono ?_
    rintro e u' w'' ⟨rfl, rfl, rfl⟩
    have hk : Kv w1 ((w1.setCell ⟨w.heap.size + 1, 0, none⟩ (ptr g)).setCell ⟨w.heap.size + 1 + 1, 0, none⟩ (.int .i64 0)) := (Kv.set _ p0 rfl).trans (Kv.set _ y1.cells.1 rfl)
    obtain ⟨hN, hF, hd, hB⟩ := HT.out
    have hN2 := hN.keep hk fun b hb => by
      have := hF b hb
      have := HZ.out
      exact (Below.heap_setCell _ _ _ _ (by show b ≠ w.heap.size + 1 + 1; omega)).trans (Below.heap_setCell _ _ _ _ (by show b ≠ w.heap.size + 1; omega))
    have hpost := ReadPost.yes rfl hN2 (fun b hb => by have := hF b hb; have := HZ.out; omega) hd ((hB.setCell (p := ⟨w.heap.size + 1, 0, none⟩) (by simp) _).setCell (p := ⟨w.heap.size + 1 + 1, 0, none⟩) (by simp; omega) _)
    have HP := Lib.hid hpost
    clear hpost hk hN2
    simp [Leaves, settle, results, Try.results26, go_sem, z1, z2]
    rw [HR0.out]
    exact HP.out
end Go.Proofs.Ytkpjkglheegmgaa
