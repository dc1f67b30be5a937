/- What the reader makes of a table's list: the walk of table. Conditions: a list that is read in memory, of a table that may be. -/
import Derived.Test.YtfmjpikibfdlaaaOb
import Derived.Test.YtfmjpikibfdlaaaOd
import Derived.Lib.MinMax
namespace Go.Proofs.Ytfmjpikibfdlaaa
open Go.RowKit Go.Sort Go.Maps
set_option linter.unusedSimpArgs false
set_option linter.unusedVariables false

theorem Try.infoCl : (Try.prog.info? 63).map (fun i => (i.zero, i.size, i.bytes)) = some (some (.agg #[.string ⟨#[]⟩, .int .i64 0, .bool false]), 3, 32) := by kernel_rfl
theorem Try.infoIx : (Try.prog.info? 81).map (fun i => (i.zero, i.size, i.bytes)) = some (some (.agg #[.string ⟨#[]⟩, .int .i64 0]), 2, 24) := by kernel_rfl
theorem rT (w0 w : World) (rb : Nat) (s : ByteArray) (l : List V3) (h : Left w0 w rb (vT s :: l)) (hs : s.size ≤ 16) :
    Calls Try.prog 59 #[.pointer (some ⟨rb, 0, none⟩)] w fun e w' => e = .returned (.string s) ∧ Left w0 w' rb l ∧ w.grownBy w' (some rb) := rtext_any w0 w rb (vT s) l h (by simp [vT]; omega)
theorem rN (w0 w : World) (rb : Nat) (n : Int) (l : List V3) (h : Left w0 w rb (vN n :: l)) :
    Calls Try.prog 60 #[.pointer (some ⟨rb, 0, none⟩)] w fun e w' => e = .returned (.int .i64 n) ∧ Left w0 w' rb l ∧ w.grownBy w' (some rb) := rnumber_any w0 w rb (vN n) l h
theorem rB (w0 w : World) (rb : Nat) (b : Bool) (l : List V3) (h : Left w0 w rb (vB b :: l)) :
    Calls Try.prog 60 #[.pointer (some ⟨rb, 0, none⟩)] w fun e w' => e = .returned (.int .i64 (if b = true then 1 else 0)) ∧ Left w0 w' rb l ∧ w.grownBy w' (some rb) := rnumber_any w0 w rb (vB b) l h
theorem grown_own {a b c : World} {r q : Option Nat} (h1 : a.grownBy b r) (h2 : b.grownBy c q) (hq : ∀ k, q = some k → a.heap.size ≤ k) : a.grownBy c r :=
  ⟨h2.os.trans h1.os, h2.tape.trans h1.tape, h2.output.trans h1.output, Nat.le_trans h1.size h2.size, fun k hk hne => (h2.block k (Nat.lt_of_lt_of_le hk h1.size) (fun e => by have := hq k e.symm; omega)).trans (h1.block k hk hne)⟩
/-- The reader's way: what is left, the result's box, the table's box, its lists. -/
structure Rst (w0 w wr : World) (rb g g3 : Nat) (l : List V3) (m : ByteArray) (key : Int) (v u : Value) (cs : List Cl) (xs : List Ix) : Prop where
  left : Left w0 wr rb l
  z : Bx4 wr g (.string eT) (.slice none 0 0) (.int .i64 0) (.slice none 0 0)
  b : Bx4 wr g3 (.string m) v (.int .i64 key) u
  c : OwnC wr w.heap.size v cs
  x : OwnX wr w.heap.size u xs
  gr : w.grownBy wr (some rb)
  ne1 : g ≠ rb
  ne2 : g3 ≠ rb
  ne3 : g ≠ g3
  le1 : w.heap.size ≤ g
  le2 : w.heap.size ≤ g3
  le0 : w0.heap.size ≤ w.heap.size
theorem own_ne_rd {w0 w : World} {rb B : Nat} {l : List V3} {e : TypeId} {k : Nat} {v : Value} {n : Nat} {xs : List Value} (h : Left w0 w rb l) (ho : w.ownsRow B e k v n xs) (he : 92 ≠ e) : v.ownBlock ≠ some rb := by
  obtain ⟨A, c, h1, _⟩ := h.rd
  exact own_ne ho h1 he
section
variable {w0 w wr wn : World} {rb g g3 : Nat} {l l' : List V3} {m : ByteArray} {key : Int} {v u v' : Value} {cs : List Cl} {xs : List Ix}
theorem Rst.read (h : Rst w0 w wr rb g g3 l m key v u cs xs) (hg : wr.grownBy wn (some rb)) (hl : Left w0 wn rb l') : Rst w0 w wn rb g g3 l' m key v u cs xs := by
  obtain ⟨A, c, h1, _⟩ := h.left.rd
  exact { left := hl, z := h.z.grown hg (by intro e; injection e with e; exact h.ne1 e.symm), b := h.b.grown hg (by intro e; injection e with e; exact h.ne2 e.symm),
          c := ownC_kept h.c hg (fun k hk => by injection hk with hk; subst hk; exact ⟨_, _, _, h1, by decide⟩), x := ownX_kept h.x hg (fun k hk => by injection hk with hk; subst hk; exact ⟨_, _, _, h1, by decide⟩),
          gr := grown_trans h.gr hg, ne1 := h.ne1, ne2 := h.ne2, ne3 := h.ne3, le1 := h.le1, le2 := h.le2, le0 := h.le0 }
theorem Rst.below (h : Rst w0 w wr rb g g3 l m key v u cs xs) (hb : Below wr.heap.size wr wn) : Rst w0 w wn rb g g3 l m key v u cs xs := h.read (grown_below hb _) (h.left.below hb)
theorem Rst.putC {x : Cl} (h : Rst w0 w wr rb g g3 l m key v u cs xs) (hg : wr.grownBy wn v.ownBlock) (ho : OwnC wn w.heap.size v' (cs ++ [x])) : Rst w0 w (wn.setCell ⟨g3, 1, none⟩ v') rb g g3 l m key v' u (cs ++ [x]) xs := by
  have hk : ∀ k, v.ownBlock = some k → w.heap.size ≤ k := fun k hk => (h.c.lt k hk).1
  have hb := h.b.grown hg (own_ne h.c h.b (by decide))
  have hs := grown_setCell wn g3 1 v'
  have hx : OwnX wn w.heap.size u xs := ownX_kept h.x hg (fun k hk => by obtain ⟨cs, fr, h1⟩ := own_type h.c k hk; exact ⟨cs, _, fr, h1, by decide⟩)
  exact { left := (h.left.grown hg (own_ne_rd h.left h.c (by decide)) (fun k e => Nat.le_trans h.le0 (hk k e))).grown hs (by intro e; injection e with e; exact h.ne2 e) (fun k e => by injection e with e; subst e; exact Nat.le_trans h.le0 h.le2),
          z := (h.z.grown hg (own_ne h.c h.z (by decide))).other _ h.ne3 _, b := hb.set1 _, c := ownC_set ho hb (by decide) _, x := ownX_set hx hb (by decide) _,
          gr := grown_own (grown_own h.gr hg hk) hs (fun k e => by injection e with e; subst e; exact h.le2), ne1 := h.ne1, ne2 := h.ne2, ne3 := h.ne3, le1 := h.le1, le2 := h.le2, le0 := h.le0 }
theorem Rst.putX {x : Ix} (h : Rst w0 w wr rb g g3 l m key v u cs xs) (hg : wr.grownBy wn u.ownBlock) (ho : OwnX wn w.heap.size v' (xs ++ [x])) : Rst w0 w (wn.setCell ⟨g3, 3, none⟩ v') rb g g3 l m key v v' cs (xs ++ [x]) := by
  have hk : ∀ k, u.ownBlock = some k → w.heap.size ≤ k := fun k hk => (h.x.lt k hk).1
  have hb := h.b.grown hg (own_ne h.x h.b (by decide))
  have hs := grown_setCell wn g3 3 v'
  have hc : OwnC wn w.heap.size v cs := ownC_kept h.c hg (fun k hk => by obtain ⟨cs, fr, h1⟩ := own_type h.x k hk; exact ⟨cs, _, fr, h1, by decide⟩)
  exact { left := (h.left.grown hg (own_ne_rd h.left h.x (by decide)) (fun k e => Nat.le_trans h.le0 (hk k e))).grown hs (by intro e; injection e with e; exact h.ne2 e) (fun k e => by injection e with e; subst e; exact Nat.le_trans h.le0 h.le2),
          z := (h.z.grown hg (own_ne h.x h.z (by decide))).other _ h.ne3 _, b := hb.set3 _, c := ownC_set hc hb (by decide) _, x := ownX_set ho hb (by decide) _,
          gr := grown_own (grown_own h.gr hg hk) hs (fun k e => by injection e with e; subst e; exact h.le2), ne1 := h.ne1, ne2 := h.ne2, ne3 := h.ne3, le1 := h.le1, le2 := h.le2, le0 := h.le0 }
end
set_option maxRecDepth 100000 in
set_option maxHeartbeats 8000000 in
theorem table_any (t : Tb) (w0 w : World) (rb : Nat) (ht : tblB t = true) (hrb : rb < w.heap.size) (h : Left w0 w rb (encV t)) :
    Calls Try.prog 37 #[.pointer (some ⟨rb, 0, none⟩)] w fun e w' => ∃ A c A' c', e = .returned (tbl t.m A t.cols.length c t.key A' t.idx.length c') ∧ TrO w' w.heap.size ⟨t, A, c, A', c'⟩ ∧ w.grownBy w' (some rb) := by
  obtain ⟨iC, hC0, hC1, hC2, hC3⟩ := info_parts Try.infoCl
  obtain ⟨iX, hX0, hX1, hX2, hX3⟩ := info_parts Try.infoIx
  obtain ⟨fc, fi, fm, fcm, fim⟩ := few_of_may ht
  obtain ⟨m, cols, key, idx⟩ := t
  dsimp only at *
  have HFC := Lib.hid fcm
  have HFI := Lib.hid fim
  have hle0 := h.bel.size
  have hb1 := below1 w (.cells #[.string ⟨#[]⟩, .slice none 0 0, .int .i64 0, .slice none 0 0] 47)
  have hz1 : Bx4 (w.alloc (.cells #[.string ⟨#[]⟩, .slice none 0 0, .int .i64 0, .slice none 0 0] 47)) w.heap.size (.string eT) (.slice none 0 0) (.int .i64 0) (.slice none 0 0) := heap_alloc_new w _
  have hg1 := World.grownBy_alloc w (.cells #[.string ⟨#[]⟩, .slice none 0 0, .int .i64 0, .slice none 0 0] 47) (some rb)
  have HLE := Lib.hid hle0
  have hT := Lib.hid (rT w0 _ rb m _ (h.below hb1) fm)
  have HN := Lib.hid fun (W : World) (n : Int) (l : List V3) (hl : Left w0 W rb (vN n :: l)) => rN w0 W rb n l hl
  have HZ1 := Lib.hid hz1
  have HG1 := Lib.hid hg1
  clear h hb1 hz1 hg1 fcm fim hle0
  go_enter Try.func37, Try.ntmps37
  go_upto_region 2 with (first
    | (go_at_call 59; (with_reducible refine hT.out.mono ?_); rintro e w1 ⟨rfl, hl, hg⟩; have HL1 := Lib.hid hl; have HG2 := Lib.hid (grown_trans HG1.out hg); have HZ2 := Lib.hid (HZ1.out.grown hg (by intro e; injection e with e; omega)); clear hl hg)
    | (go_at_call 60; (with_reducible refine (HN.out _ _ _ HL1.out).mono ?_); rintro e w2 ⟨rfl, hl, hg⟩; have HL2 := Lib.hid hl; have HG3 := Lib.hid (grown_trans HG2.out hg); have HZ3 := Lib.hid (HZ2.out.grown hg (by intro e; injection e with e; omega)); clear hl hg))
  have hb3 := below1 w2 (.cells #[.string m, .slice none 0 0, .int .i64 key, .slice none 0 0] 47)
  have hr3 : Rst w0 w (w2.alloc (.cells #[.string m, .slice none 0 0, .int .i64 key, .slice none 0 0] 47)) rb w.heap.size w2.heap.size (vN cols.length :: (cols.flatMap colV ++ (vN idx.length :: idx.flatMap ixV))) m key (.slice none 0 0) (.slice none 0 0) [] [] :=
    { left := HL2.out.below hb3, z := HZ3.out.below hb3, b := heap_alloc_new w2 _, c := World.ownsRow_nil _ _ _ _, x := World.ownsRow_nil _ _ _ _, gr := grown_trans HG3.out (grown_below hb3 _),
      ne1 := (by omega), ne2 := (by have := HG3.out.size; omega), ne3 := (by have := HZ3.out.lt; omega), le1 := Nat.le_refl _, le2 := HG3.out.size, le0 := HLE.out }
  have HR3 := Lib.hid hr3
  clear hb3 hr3 HL1 HG2 HZ2 HL2 HG3 HZ3 HG1 HZ1 hT
  generalize hg3 : w2.heap.size = g3 at *
  generalize w2.alloc (.cells #[.string m, .slice none 0 0, .int .i64 key, .slice none 0 0] 47) = wa at *
  clear hg3
  have hmc : min (cols.length : Int) 8 = cols.length := by omega
  go_upto_region 3 with (go_at_call 60; (with_reducible refine (HN.out _ _ _ HR3.out.left).mono ?_); rintro e w4 ⟨rfl, hl, hg⟩; have HR4 := Lib.hid (HR3.out.read hg hl); clear hl hg)
  clear HR3
  go_wp2
  go_loopw [12] (fun i wr => ∃ (j : Nat) (v : Value), i = .int .i64 j ∧ j ≤ cols.length ∧ Rst w0 w wr rb w.heap.size g3 ((cols.drop j).flatMap colV ++ (vN idx.length :: idx.flatMap ixV)) m key v (.slice none 0 0) (cols.take j) []) (fun i _ => cols.length - (intOf i).toNat)
  case atStart => exact ⟨0, _, rfl, by omega, by simpa using HR4.out⟩
  case round =>
    obtain ⟨j, v, rfl, hj, hR⟩ := hrel
    by_cases hlt : j < cols.length
    · have hdr : (cols.drop j).flatMap colV ++ (vN idx.length :: idx.flatMap ixV) = vT cols[j].m :: vN cols[j].k :: vB cols[j].nn :: ((cols.drop (j + 1)).flatMap colV ++ (vN idx.length :: idx.flatMap ixV)) := by
        rw [List.drop_eq_getElem_cons hlt, List.flatMap_cons]; simp [colV]
      have htk : cols.take (j + 1) = cols.take j ++ [cols[j]] := List.take_succ_eq_append_getElem hlt
      have hx16 := HFC.out _ (List.getElem_mem hlt)
      have hjl : (j : Int) < (cols.length : Int) := by omega
      rw [hdr] at hR
      have HTK := Lib.hid htk
      have HR := Lib.hid hR
      have HLJ : Hid ((cols.take j).length = j) := Lib.hid (by rw [List.length_take]; omega)
      clear hdr htk hR HR4
      generalize cols[j] = x at HTK HR hx16
      obtain ⟨xm, xk, xb⟩ := x
      dsimp only at *
      have HTC := Lib.hid (rT w0 _ rb xm _ (HR.out.below (Below.refl _ _).drew).left hx16)
      obtain ⟨_, n0, _, _, _, nf0, _, _⟩ := cells4 HR.out.b
      go_upto_region 4 with fail
      cases xb
      · have HB := Lib.hid fun (W : World) (l : List V3) (hl : Left w0 W rb (vB false :: l)) => rB w0 W rb false l hl
        go_region_law (first
          | (refine step_append_own rfl (.tmp 15) (.tmp 24) 25 rfl w.heap.size 63 iC (.agg #[.string ⟨#[]⟩, .int .i64 0, .bool false]) 3 32 Try.underlying25 hC0 hC1 hC2 hC3 rfl (by decide) v (cols.take j).length ((cols.take j).flatMap colC) rfl HR8.out.c ⟨v3.heap.size, 0, none⟩ 1 1 (colC ⟨xm, xk, false⟩) rfl rfl HNW.out (by simp [Value.oneCell', colC]) (by rw [HLJ.out]; unfold maxLen; omega) (by rw [HLJ.out]; omega) HR8.out.gr.size ?_; intro v' w7 hown hg; have hb7 := HR8.out.b.grown hg (own_ne HR8.out.c HR8.out.b (by decide)); obtain ⟨_, n7, _, _, _, nf7, _, _⟩ := cells4 hb7; obtain ⟨A7, l7, c7, rfl⟩ := form_of hown; have HR9 := Lib.hid (Rst.putC (x := ⟨xm, xk, false⟩) HR8.out hg (by unfold OwnC; rw [List.length_append, List.flatMap_append]; exact hown)); clear hown hg hb7)
          | (go_simp; go_at_call 59; (with_reducible refine HTC.out.mono ?_); rintro e v1 ⟨rfl, hl, hg⟩; have HR5 := Lib.hid ((HR.out.below (Below.refl _ _).drew).read hg hl); obtain ⟨_, n1, _, _, _, nf1, _, _⟩ := cells4 HR5.out.b; clear hl hg)
          | (go_simp; go_at_call 60; (with_reducible refine (HN.out _ _ _ HR5.out.left).mono ?_); rintro e v2 ⟨rfl, hl, hg⟩; have HR6 := Lib.hid (HR5.out.read hg hl); obtain ⟨_, n2, _, _, _, nf2, _, _⟩ := cells4 HR6.out.b; clear hl hg)
          | (go_simp; go_at_call 60; (with_reducible refine (HB.out _ _ HR6.out.left).mono ?_); rintro e v3 ⟨rfl, hl, hg⟩; have HR7 := Lib.hid (HR6.out.read hg hl); obtain ⟨_, n3, _, _, _, nf3, _, _⟩ := cells4 HR7.out.b; have HR8 := Lib.hid (HR7.out.below (below1 v3 (.cells #[.string xm, .int .i64 xk, .bool false] 63))); obtain ⟨_, n4, _, _, _, nf4, _, _⟩ := cells4 HR8.out.b; have HNW := Lib.hid (news_new0 v3 #[.string xm, .int .i64 xk, .bool false] 63 (colC ⟨xm, xk, false⟩) rfl); clear hl hg))
        all_goals
          go_wp2
          go_roundw
          case rel => exact ⟨j + 1, _, by go_num, hlt, by rw [HTK.out]; exact HR9.out⟩
          case measure => simp [intOf]; omega
      · have HB := Lib.hid fun (W : World) (l : List V3) (hl : Left w0 W rb (vB true :: l)) => rB w0 W rb true l hl
        go_region_law (first
          | (refine step_append_own rfl (.tmp 15) (.tmp 24) 25 rfl w.heap.size 63 iC (.agg #[.string ⟨#[]⟩, .int .i64 0, .bool false]) 3 32 Try.underlying25 hC0 hC1 hC2 hC3 rfl (by decide) v (cols.take j).length ((cols.take j).flatMap colC) rfl HR8.out.c ⟨v3.heap.size, 0, none⟩ 1 1 (colC ⟨xm, xk, true⟩) rfl rfl HNW.out (by simp [Value.oneCell', colC]) (by rw [HLJ.out]; unfold maxLen; omega) (by rw [HLJ.out]; omega) HR8.out.gr.size ?_; intro v' w7 hown hg; have hb7 := HR8.out.b.grown hg (own_ne HR8.out.c HR8.out.b (by decide)); obtain ⟨_, n7, _, _, _, nf7, _, _⟩ := cells4 hb7; obtain ⟨A7, l7, c7, rfl⟩ := form_of hown; have HR9 := Lib.hid (Rst.putC (x := ⟨xm, xk, true⟩) HR8.out hg (by unfold OwnC; rw [List.length_append, List.flatMap_append]; exact hown)); clear hown hg hb7)
          | (go_simp; go_at_call 59; (with_reducible refine HTC.out.mono ?_); rintro e v1 ⟨rfl, hl, hg⟩; have HR5 := Lib.hid ((HR.out.below (Below.refl _ _).drew).read hg hl); obtain ⟨_, n1, _, _, _, nf1, _, _⟩ := cells4 HR5.out.b; clear hl hg)
          | (go_simp; go_at_call 60; (with_reducible refine (HN.out _ _ _ HR5.out.left).mono ?_); rintro e v2 ⟨rfl, hl, hg⟩; have HR6 := Lib.hid (HR5.out.read hg hl); obtain ⟨_, n2, _, _, _, nf2, _, _⟩ := cells4 HR6.out.b; clear hl hg)
          | (go_simp; go_at_call 60; (with_reducible refine (HB.out _ _ HR6.out.left).mono ?_); rintro e v3 ⟨rfl, hl, hg⟩; have HR7 := Lib.hid (HR6.out.read hg hl); obtain ⟨_, n3, _, _, _, nf3, _, _⟩ := cells4 HR7.out.b; have HR8 := Lib.hid (HR7.out.below (below1 v3 (.cells #[.string xm, .int .i64 xk, .bool true] 63))); obtain ⟨_, n4, _, _, _, nf4, _, _⟩ := cells4 HR8.out.b; have HNW := Lib.hid (news_new0 v3 #[.string xm, .int .i64 xk, .bool true] 63 (colC ⟨xm, xk, true⟩) rfl); clear hl hg))
        all_goals
          go_wp2
          go_roundw
          case rel => exact ⟨j + 1, _, by go_num, hlt, by rw [HTK.out]; exact HR9.out⟩
          case measure => simp [intOf]; omega
    · obtain rfl : j = cols.length := by omega
      have hR2 : Rst w0 w wr rb w.heap.size g3 (vN idx.length :: idx.flatMap ixV) m key v (.slice none 0 0) cols [] := by
        have h1 := hR
        rw [List.take_length, List.drop_length] at h1
        exact h1
      have HR := Lib.hid hR2
      clear hR hR2 HR4
      have hmi : min (idx.length : Int) 4 = idx.length := by omega
      go_upto_region 7 with (go_at_call 60; (with_reducible refine (HN.out _ _ _ HR.out.left).mono ?_); rintro e w4 ⟨rfl, hl, hg⟩; have HR4 := Lib.hid (HR.out.read hg hl); clear hl hg)
      clear HR
      go_wp2
      go_loopw [31] (fun i wq => ∃ (j : Nat) (u : Value), i = .int .i64 j ∧ j ≤ idx.length ∧ Rst w0 w wq rb w.heap.size g3 ((idx.drop j).flatMap ixV) m key v u cols (idx.take j)) (fun i _ => idx.length - (intOf i).toNat)
      case atStart => exact ⟨0, _, rfl, by omega, by simpa using HR4.out⟩
      case round =>
        obtain ⟨j, u, rfl, hj, hR⟩ := hrel
        by_cases hlt : j < idx.length
        · have hdr : (idx.drop j).flatMap ixV = vT idx[j].m :: vN idx[j].c :: (idx.drop (j + 1)).flatMap ixV := by
            rw [List.drop_eq_getElem_cons hlt, List.flatMap_cons]; simp [ixV]
          have htk : idx.take (j + 1) = idx.take j ++ [idx[j]] := List.take_succ_eq_append_getElem hlt
          have hx16 := HFI.out _ (List.getElem_mem hlt)
          have hjl : (j : Int) < (idx.length : Int) := by omega
          rw [hdr] at hR
          have HTK := Lib.hid htk
          have HR := Lib.hid hR
          have HLJ : Hid ((idx.take j).length = j) := Lib.hid (by rw [List.length_take]; omega)
          clear hdr htk hR HR4
          generalize idx[j] = x at HTK HR hx16
          obtain ⟨xm, xk⟩ := x
          dsimp only at *
          obtain ⟨_, _, _, n0, _, _, _, nf0⟩ := cells4 HR.out.b
          go_upto_region 8 with fail
          have HTC := Lib.hid (rT w0 _ rb xm _ (HR.out.below (Below.refl _ _).drew).left hx16)
          go_region_law (first
            | (refine step_append_own rfl (.tmp 34) (.tmp 40) 45 rfl w.heap.size 81 iX (.agg #[.string ⟨#[]⟩, .int .i64 0]) 2 24 Try.underlying45 hX0 hX1 hX2 hX3 rfl (by decide) u (idx.take j).length ((idx.take j).flatMap ixC) rfl HR8.out.x ⟨v2.heap.size, 0, none⟩ 1 1 (ixC ⟨xm, xk⟩) rfl rfl HNW.out (by simp [Value.oneCell', ixC]) (by rw [HLJ.out]; unfold maxLen; omega) (by rw [HLJ.out]; omega) HR8.out.gr.size ?_; intro v' w7 hown hg; have hb7 := HR8.out.b.grown hg (own_ne HR8.out.x HR8.out.b (by decide)); obtain ⟨_, _, _, n7, _, _, _, nf7⟩ := cells4 hb7; obtain ⟨A7, l7, c7, rfl⟩ := form_of hown; have HR9 := Lib.hid (Rst.putX (x := ⟨xm, xk⟩) HR8.out hg (by unfold OwnX; rw [List.length_append, List.flatMap_append]; exact hown)); clear hown hg hb7)
            | (go_simp; go_at_call 59; (with_reducible refine HTC.out.mono ?_); rintro e v1 ⟨rfl, hl, hg⟩; have HR5 := Lib.hid ((HR.out.below (Below.refl _ _).drew).read hg hl); obtain ⟨_, _, _, n1, _, _, _, nf1⟩ := cells4 HR5.out.b; clear hl hg)
            | (go_simp; go_at_call 60; (with_reducible refine (HN.out _ _ _ HR5.out.left).mono ?_); rintro e v2 ⟨rfl, hl, hg⟩; have HR7 := Lib.hid (HR5.out.read hg hl); obtain ⟨_, _, _, n3, _, _, _, nf3⟩ := cells4 HR7.out.b; have HR8 := Lib.hid (HR7.out.below (below1 v2 (.cells #[.string xm, .int .i64 xk] 81))); obtain ⟨_, _, _, n4, _, _, _, nf4⟩ := cells4 HR8.out.b; have HNW := Lib.hid (news_new0 v2 #[.string xm, .int .i64 xk] 81 (ixC ⟨xm, xk⟩) rfl); clear hl hg))
          all_goals
            go_wp2
            go_roundw
            case rel => exact ⟨j + 1, _, by go_num, hlt, by rw [HTK.out]; exact HR9.out⟩
            case measure => simp [intOf]; omega
        · obtain rfl : j = idx.length := by omega
          have hR2 : Rst w0 w wr rb w.heap.size g3 [] m key v u cols idx := by
            have h1 := hR
            rw [List.take_length, List.drop_length] at h1
            exact h1
          clear hR HR4
          obtain ⟨A, c, rfl, _⟩ := ownC_form hR2.c
          obtain ⟨A', c', rfl, _⟩ := ownX_form hR2.x
          obtain ⟨b0, b1, b2, b3, _, _, _, _⟩ := cells4 hR2.b
          obtain ⟨_, _, _, _, f0, f1, f2, f3⟩ := cells4 hR2.z
          have HR := Lib.hid hR2
          clear hR2
          go_wp2
          have hs : wr.grownBy ((((wr.setCell ⟨w.heap.size, 0, none⟩ (.string m)).setCell ⟨w.heap.size, 1, none⟩ (.slice A cols.length c)).setCell ⟨w.heap.size, 2, none⟩ (.int .i64 key)).setCell ⟨w.heap.size, 3, none⟩ (.slice A' idx.length c')) (some w.heap.size) :=
            grown_trans (grown_trans (grown_trans (grown_setCell _ _ _ _) (grown_setCell _ _ _ _)) (grown_setCell _ _ _ _)) (grown_setCell _ _ _ _)
          have hz9 := (((HR.out.z.set0 (.string m)).set1 (.slice A cols.length c)).set2 (.int .i64 key)).set3 (.slice A' idx.length c')
          obtain ⟨r0, r1, r2, r3, _, _, _, _⟩ := cells4 hz9
          have ht9 : TrO wr w.heap.size ⟨⟨m, cols, key, idx⟩, A, c, A', c'⟩ := ⟨HR.out.c, HR.out.x⟩
          exact bodyPost_ret (v := tbl m A cols.length c key A' idx.length c') (by simp [results, Try.results37, go_sem, r0, r1, r2, r3]) rfl
            ⟨A, c, A', c', rfl, ht9.kept hs (fun k hk => by injection hk with hk; subst hk; exact ⟨_, _, _, HR.out.z, by decide, by decide⟩), grown_own HR.out.gr hs (fun k hk => by injection hk with hk; omega)⟩
end Go.Proofs.Ytfmjpikibfdlaaa
