/- What rows' Check answers of any rows, and where its Find finds a key: the walks. Conditions: a table and rows that are read in memory. -/
import Derived.Test.YtjbebhhoakmceaaJl
import Derived.Test.YtjbebhhoakmceaaJj
import Derived.Test.YtjbebhhoakmceaaJr
namespace Go.Proofs.Ytjbebhhoakmceaa
open Go.RowKit Go.Sort
set_option linter.unusedSimpArgs false
set_option linter.unusedVariables false

/-- Whether rows may be a table's. -/
def chkF (t : Tb) (ls : List (List Vl)) : Int := if 256 < ls.length then 3 else if tblB t = false then 9 else chkR t.cols t.key.toNat ls
theorem chkF_zero {t : Tb} {ls : List (List Vl)} (h : chkF t ls = 0) : ls.length ≤ 256 ∧ tblB t = true ∧ (∀ r ∈ ls, fitR t.cols r = 0) ∧ Srt t.key.toNat ls := by
  unfold chkF at h
  split at h
  · cases h
  · split at h
    · cases h
    · rename_i h1 h2
      have h3 := chkR_zero.1 h
      exact ⟨by omega, by simpa using h2, h3.1, h3.2⟩
theorem chkF_ok {t : Tb} {ls : List (List Vl)} (h1 : ls.length ≤ 256) (h2 : tblB t = true) (h3 : ∀ r ∈ ls, fitR t.cols r = 0) (h4 : Srt t.key.toNat ls) : chkF t ls = 0 := by
  unfold chkF
  rw [if_neg (by omega), if_neg (by simp [h2])]
  exact chkR_zero.2 ⟨h3, h4⟩
/-- How a table lies in memory. -/
structure RdT (w : World) (t : Tb) (cA iA : Option Addr) : Prop where
  c : RdC w cA t.cols
  x : RdX w iA t.idx
  n : t.cols.length ≤ 9223372036854775807
theorem RdT.below {w w' : World} {t : Tb} {cA iA : Option Addr} (h : RdT w t cA iA) (hb : Below w.heap.size w w') : RdT w' t cA iA := ⟨h.c.below hb, h.x.below hb, h.n⟩
theorem risTable_T {w : World} {t : Tb} {cA iA : Option Addr} (cc ic : Nat) (h : RdT w t cA iA) : Calls Try.prog 20 #[tbl t.m cA t.cols.length cc t.key iA t.idx.length ic] w fun e w' => e = .returned (.bool (tblB t)) ∧ Below w.heap.size w w' :=
  risTable_any t cA iA cc ic w h.c h.x h.n

set_option maxHeartbeats 1000000 in
theorem rCheck_any (t : Tb) (cA iA : Option Addr) (cc ic : Nat) (A : Option Addr) (n c : Nat) (ls : List (List Vl)) (w : World) (ht : RdT w t cA iA) (hl : n = ls.length) (hr : RdR w A ls) (hn : ls.length ≤ 9223372036854775807) :
    Calls Try.prog 9 #[tbl t.m cA t.cols.length cc t.key iA t.idx.length ic, .slice A n c] w fun e w' => e = .returned (.int .i64 (chkF t ls)) ∧ Below w.heap.size w w' := by
  subst hl
  have HT := Lib.hid ht
  have HR := Lib.hid hr
  clear ht hr
  by_cases h256 : 256 < ls.length
  · have e : chkF t ls = 3 := by unfold chkF; rw [if_pos h256]
    rw [e]
    clear e
    have hi : (256 : Int) < (ls.length : Int) := by omega
    go_enter Try.func9, Try.ntmps9
    go_wp2
    go_ret
    exact ⟨rfl, below1 _ _⟩
  · have hi : (ls.length : Int) ≤ 256 := by omega
    have hi2 : ¬ (256 : Int) < (ls.length : Int) := by omega
    have HI := Lib.hid (risTable_T cc ic (HT.out.below (below1 w (.cells #[.string t.m, .slice cA t.cols.length cc, .int .i64 t.key, .slice iA t.idx.length ic] 30))))
    cases hT : tblB t
    · have e : chkF t ls = 9 := by unfold chkF; rw [if_neg h256, if_pos hT]
      have E := Lib.hid e
      have HI2 := Lib.hid HI.out
      rw [hT] at HI2
      clear e hT HI
      go_enter Try.func9, Try.ntmps9
      go_wp2_with (go_at_call 20; refine HI2.out.mono ?_; rintro e w1 ⟨rfl, hb⟩; have HB := Lib.hid hb; clear hb)
      go_ret
      exact ⟨ret_int E.out.symm, (below1 _ _).trans (HB.out.mono (by simp))⟩
    · have e : chkF t ls = chkR t.cols t.key.toNat ls := by unfold chkF; rw [if_neg h256, if_neg (by simp [hT])]
      obtain ⟨k1, k2, kk, hk, hkk⟩ := tblB_key hT
      have HI2 := Lib.hid HI.out
      rw [hT] at HI2
      obtain ⟨m, cols, key, idx⟩ := t
      dsimp only at hk hkk k1 k2 e HI2 ⊢
      subst hk
      rw [Int.toNat_natCast] at e
      have E := Lib.hid e
      have HW := Lib.hid fun (W : World) (hb : Below w.heap.size w W) => wcheck_any m cA iA cc ic idx.length kk A ls.length c cols ls W rfl (HR.out.below hb) (HT.out.c.below hb) (by omega) k2 hkk
      clear e hT HI
      go_enter Try.func9, Try.ntmps9
      go_wp2_with (first | (go_at_call 20; refine HI2.out.mono ?_; rintro e w1 ⟨rfl, hb⟩; obtain ⟨x0, x1, x2, x3⟩ := (Box4.new w m cA cols.length cc kk iA idx.length ic 30).below hb; have HB := Lib.hid ((below1 w _).trans (hb.mono (by simp))); clear hb) | (go_at_call 21; refine (HW.out _ HB.out).mono ?_; rintro e w2 ⟨rfl, hb⟩; have HB2 := Lib.hid hb; clear hb))
      go_ret
      exact ⟨ret_int E.out.symm, HB.out.trans (HB2.out.mono HB.out.size)⟩

set_option maxHeartbeats 1000000 in
/-- Find, where the rows may be the table's. -/
theorem rFind_any (t : Tb) (cA iA : Option Addr) (cc ic : Nat) (A : Option Addr) (n c : Nat) (ls : List (List Vl)) (v : Vl) (w : World) (ht : RdT w t cA iA) (hl : n = ls.length) (hr : RdR w A ls) (hok : chkF t ls = 0) :
    Calls Try.prog 10 #[tbl t.m cA t.cols.length cc t.key iA t.idx.length ic, .slice A n c, v.val] w fun e w' => e = .returned (.tuple #[.int .i64 (pos t.key.toNat ls v), .bool (isAt t.key.toNat ls v), .int .i64 0]) ∧ Below w.heap.size w w' := by
  subst hl
  obtain ⟨h256, hT, hfit, hs⟩ := chkF_zero hok
  obtain ⟨k1, k2, kk, hk, hkk⟩ := tblB_key hT
  have HT := Lib.hid ht
  have HR := Lib.hid hr
  have hB2 := (below1 w (.cells #[.string t.m, .slice cA t.cols.length cc, .int .i64 t.key, .slice iA t.idx.length ic] 30)).alloc (by simp) (.cells #[.int .i64 v.k, .int .i64 v.n, .string v.s] 39)
  have hc := rCheck_any t cA iA cc ic A ls.length c ls _ (ht.below hB2) rfl (hr.below hB2) (by omega)
  rw [hok] at hc
  have hX := (Box4.new w t.m cA t.cols.length cc t.key iA t.idx.length ic 30).below (below1 _ (.cells #[.int .i64 v.k, .int .i64 v.n, .string v.s] 39))
  have hV := (Row.new (w.alloc (.cells #[.string t.m, .slice cA t.cols.length cc, .int .i64 t.key, .slice iA t.idx.length ic] 30)) v 39 (w.heap.size + 1) (by simp))
  obtain ⟨m, cols, key, idx⟩ := t
  dsimp only at *
  subst hk
  rw [Int.toNat_natCast] at hs ⊢
  have HF := Lib.hid fun (W : World) (hb : Below w.heap.size w W) => wfind_any m cA iA cols.length cc ic idx.length kk A ls.length c ls v W rfl (HR.out.below hb) (fun r hr => by rw [fitR_len (hfit r hr)]; exact hkk) h256 hs
  have HC := Lib.hid hc
  have HX := Lib.hid hX
  have HV := Lib.hid hV
  have HB2 := Lib.hid hB2
  clear ht hr hc hX hV hB2 hok hT hfit hs
  generalize pos kk ls v = P at HF ⊢
  generalize isAt kk ls v = B at HF ⊢
  go_enter Try.func10, Try.ntmps10
  go_wp2_with (first | (go_at_call 9; refine HC.out.mono ?_; rintro e w1 ⟨rfl, hb⟩; obtain ⟨x0, x1, x2, x3⟩ := HX.out.below hb; obtain ⟨v0, v1, v2, _, _, _⟩ := (HV.out.below hb).one; have HB := Lib.hid (HB2.out.trans (hb.mono HB2.out.size)); clear hb) | (go_at_call 22; refine (HF.out _ HB.out).mono ?_; rintro e w2 ⟨rfl, hb⟩; have HB3 := Lib.hid hb; clear hb))
  exact bodyPost_ret (v := .tuple #[.int .i64 P, .bool B, .int .i64 0]) (by simp [results, Try.results10, go_sem]) rfl ⟨rfl, HB.out.trans (HB3.out.mono HB.out.size)⟩

set_option maxHeartbeats 1000000 in
theorem insert1_any (b p : Nat) (m : ByteArray) (cA iA : Option Addr) (cc ic in_ kk : Nat) (cols : List Cl) (w0 w : World) (lv : Value) (cs : List Value) (l : List (List Vl)) (M : Option Addr) (mn mc : Nat) (more : List (List Vl))
    (hW : Way m cA cols.length cc kk iA in_ ic w0 w b lv cs l) (hp : w0.cell? ⟨p, 0, none⟩ = some (.slice M mn mc)) (hl : mn = more.length) (hr : RdR w0 M more) (hc : RdC w0 cA cols) (hmn : more.length ≤ 9223372036854775807) (hn : l.length ≤ 256) (h8 : cols.length ≤ 8) (hk : kk < cols.length) (hs : Srt kk l) (hfit : ∀ r ∈ l, fitR cols r = 0) :
    Calls Try.prog 18 #[.pointer (some ⟨b, 0, none⟩), .pointer (some ⟨p, 0, none⟩)] w (WayPost m cA cols.length cc kk iA in_ ic w0 b (insF (fitR cols) kk l more)) := by
  have H := Lib.hid (winsert_any m cA iA cc ic in_ kk cols w0 w b lv cs l M mn mc more hW hl hr hc hmn hn h8 hk hs hfit)
  have hp' := (hW.below.cell (cell_lt hp)).trans hp
  generalize insF (fitR cols) kk l more = R at H ⊢
  clear hW hp hl hr hc hs hfit
  go_enter Try.func18, Try.ntmps18
  go_wp2_with (go_at_call 19; refine H.out.mono ?_; rintro e w1 ⟨rfl, hb, hw⟩; have HB := Lib.hid hb; have HW := Lib.hid hw; clear hb hw)
  go_ret
  exact ⟨rfl, HB.out, HW.out⟩
set_option maxHeartbeats 1000000 in
theorem delete1_any (b p : Nat) (m : ByteArray) (cA iA : Option Addr) (cn cc ic in_ kk : Nat) (w0 w : World) (lv : Value) (cs : List Value) (l : List (List Vl)) (M : Option Addr) (mn mc : Nat) (ks : List Vl)
    (hW : Way m cA cn cc kk iA in_ ic w0 w b lv cs l) (hp : w0.cell? ⟨p, 0, none⟩ = some (.slice M mn mc)) (hl : mn = ks.length) (hr : RdL w0 M ks) (hmn : ks.length ≤ 9223372036854775807) (hn : l.length ≤ 256) (hk : ∀ r ∈ l, kk < r.length) (hs : Srt kk l) :
    Calls Try.prog 23 #[.pointer (some ⟨b, 0, none⟩), .pointer (some ⟨p, 0, none⟩)] w (WayPost m cA cn cc kk iA in_ ic w0 b (delF kk l ks)) := by
  have H := Lib.hid (wdelete_any m cA iA cn cc ic in_ kk w0 w b lv cs l M mn mc ks hW hl hr hmn hn hk hs)
  have hp' := (hW.below.cell (cell_lt hp)).trans hp
  generalize delF kk l ks = R at H ⊢
  clear hW hp hl hr hs hk
  go_enter Try.func23, Try.ntmps23
  go_wp2_with (go_at_call 24; refine H.out.mono ?_; rintro e w1 ⟨rfl, hb, hw⟩; have HB := Lib.hid hb; have HW := Lib.hid hw; clear hb hw)
  go_ret
  exact ⟨rfl, HB.out, HW.out⟩

theorem delF_sub (kk : Nat) : ∀ (ks : List Vl) (l : List (List Vl)), (∀ x ∈ (delF kk l ks).2, x ∈ l) ∧ (delF kk l ks).2.length ≤ l.length
  | [], l => ⟨fun x h => h, Nat.le_refl _⟩
  | k :: ks, l => by
    rw [delF]
    split
    · obtain ⟨h1, h2⟩ := delF_sub kk ks (l.eraseIdx (pos kk l k))
      exact ⟨fun x h => List.mem_of_mem_eraseIdx (h1 x h), Nat.le_trans h2 (by rw [List.length_eraseIdx]; split <;> omega)⟩
    · exact ⟨fun x h => h, Nat.le_refl _⟩
/-- Rows in the place of others. -/
def updF (f : List Vl → Int) (kk : Nat) (l : List (List Vl)) (ks : List Vl) (more : List (List Vl)) : Int × List (List Vl) :=
  if ks.length ≠ more.length then (3, l) else if (delF kk l ks).1 ≠ 0 then ((delF kk l ks).1, l) else insF f kk (delF kk l ks).2 more
set_option maxHeartbeats 2000000 in
theorem update1_any (b p q : Nat) (m : ByteArray) (cA iA : Option Addr) (cc ic in_ kk : Nat) (cols : List Cl) (w0 w : World) (lv : Value) (cs : List Value) (l : List (List Vl)) (K : Option Addr) (kn kc : Nat) (ks : List Vl) (M : Option Addr) (mn mc : Nat) (more : List (List Vl))
    (hW : Way m cA cols.length cc kk iA in_ ic w0 w b lv cs l) (hp : w0.cell? ⟨p, 0, none⟩ = some (.slice K kn kc)) (hq : w0.cell? ⟨q, 0, none⟩ = some (.slice M mn mc)) (hkl : kn = ks.length) (hkr : RdL w0 K ks) (hkn : ks.length ≤ 9223372036854775807) (hl : mn = more.length) (hr : RdR w0 M more) (hc : RdC w0 cA cols) (hmn : more.length ≤ 9223372036854775807) (hn : l.length ≤ 256) (h8 : cols.length ≤ 8) (hk : kk < cols.length) (hs : Srt kk l) (hfit : ∀ r ∈ l, fitR cols r = 0) :
    Calls Try.prog 25 #[.pointer (some ⟨b, 0, none⟩), .pointer (some ⟨p, 0, none⟩), .pointer (some ⟨q, 0, none⟩)] w (WayPost m cA cols.length cc kk iA in_ ic w0 b (updF (fitR cols) kk l ks more)) := by
  have hp' := (hW.below.cell (cell_lt hp)).trans hp
  have hq' := (hW.below.cell (cell_lt hq)).trans hq
  subst hkl hl
  by_cases hlen : ks.length = more.length
  · have H := Lib.hid (wdelete_any m cA iA cols.length cc ic in_ kk w0 w b lv cs l K ks.length kc ks hW rfl hkr hkn hn (fun r hr => by rw [fitR_len (hfit r hr)]; exact hk) hs)
    have hd := delF_sub kk ks l
    have hds := delF_srt kk ks l hs
    have hU : updF (fitR cols) kk l ks more = if (delF kk l ks).1 ≠ 0 then ((delF kk l ks).1, l) else insF (fitR cols) kk (delF kk l ks).2 more := by unfold updF; rw [if_neg (by simpa using hlen)]
    rw [hU]
    have hle : ((ks.length : Int) != (more.length : Int)) = false := by simp; omega
    generalize delF kk l ks = D at H hd hds ⊢
    obtain ⟨E, l1⟩ := D
    dsimp only at hd hds ⊢
    by_cases hE : E = 0
    · have HI := Lib.hid fun (W : World) (lv' : Value) (cs' : List Value) (h : Way m cA cols.length cc kk iA in_ ic w0 W b lv' cs' l1) => winsert_any m cA iA cc ic in_ kk cols w0 W b lv' cs' l1 M more.length mc more h rfl hr hc hmn (by omega) h8 hk hds (fun r hr => hfit r (hd.1 r hr))
      rw [if_neg (by simpa using hE)]
      generalize insF (fitR cols) kk l1 more = R at HI ⊢
      subst hE
      have HQ := Lib.hid hq
      clear hW hp hr hc hs hfit hd hds hU hlen hkr
      go_enter Try.func25, Try.ntmps25
      go_wp2_with (first | (go_at_call 24; refine H.out.mono ?_; rintro e w1 ⟨rfl, hb, hw⟩; obtain ⟨lv1, cs1, hw1⟩ := hw rfl; have q1 := (hw1.below.cell (cell_lt HQ.out)).trans HQ.out; have HW1 := Lib.hid hw1; clear hb hw hw1) | (go_at_call 19; refine (HI.out _ _ _ HW1.out).mono ?_; rintro e w2 ⟨rfl, hb, hw⟩; have HB := Lib.hid hb; have HW := Lib.hid hw; clear hb hw))
      go_ret
      exact ⟨rfl, HB.out, HW.out⟩
    · rw [if_pos hE]
      have HE := Lib.hid hE
      clear hW hp hq hr hc hs hfit hd hds hU hlen hkr
      go_enter Try.func25, Try.ntmps25
      go_wp2_with (go_at_call 24; refine H.out.mono ?_; rintro e w1 ⟨rfl, hb, hw⟩; have HB := Lib.hid hb; clear hb hw)
      go_ret
      exact ⟨rfl, HB.out, fun h => absurd h HE.out⟩
  · have hU : updF (fitR cols) kk l ks more = (3, l) := by unfold updF; rw [if_pos hlen]
    rw [hU]
    have hle : ((ks.length : Int) != (more.length : Int)) = true := by simp; omega
    have HB := Lib.hid hW.below
    clear hW hp hq hr hc hs hfit hU hlen hkr
    go_enter Try.func25, Try.ntmps25
    go_wp2
    go_ret
    exact ⟨rfl, HB.out, fun h => absurd (show (3 : Int) = 0 from h) (by decide)⟩
end Go.Proofs.Ytjbebhhoakmceaa
