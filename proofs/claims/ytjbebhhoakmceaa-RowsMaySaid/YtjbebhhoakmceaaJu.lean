/- What rows' Insert, Delete and Update make of rows: the walks. Conditions: a table and rows that are read in memory. -/
import Derived.Test.YtjbebhhoakmceaaJt
namespace Go.Proofs.Ytjbebhhoakmceaa
open Go.RowKit Go.Sort
set_option linter.unusedSimpArgs false
set_option linter.unusedVariables false

def insR (t : Tb) (ls more : List (List Vl)) : Int × List (List Vl) := trnF t ls (insF (fitR t.cols) t.key.toNat ls more)
def delR (t : Tb) (ls : List (List Vl)) (ks : List Vl) : Int × List (List Vl) := trnF t ls (delF t.key.toNat ls ks)
def updR (t : Tb) (ls : List (List Vl)) (ks : List Vl) (more : List (List Vl)) : Int × List (List Vl) := trnF t ls (updF (fitR t.cols) t.key.toNat ls ks more)
theorem box_cell {w W : World} {v : Value} {T : TypeId} {g : Nat} (hb : Below (w.alloc (.cells #[v] T)).heap.size (w.alloc (.cells #[v] T)) W) (hg : g = w.heap.size) : W.cell? ⟨g, 0, none⟩ = some v := by
  subst hg
  rw [hb.cell (p := ⟨w.heap.size, 0, none⟩) (by simp), cell_last _ _ _ _ _ rfl]; rfl
theorem TurnPost.out {w W : World} {R : Int × List (List Vl)} {e : Ending} {w' : World} (h : TurnPost W R e w') (hb : Below w.heap.size w W) : TurnPost w R e w' := ⟨h.1, h.2.1, hb.trans (h.2.2.mono hb.size)⟩
theorem TurnPost.form {w : World} {R : Int × List (List Vl)} {e : Ending} {w' : World} (h : TurnPost w R e w') : ∃ A n c E, e = .returned (.tuple #[.slice A n c, .int .i64 E]) := by
  by_cases h0 : R.1 = 0
  · obtain ⟨A, c, he, _⟩ := h.2.1 h0
    exact ⟨_, _, _, _, he⟩
  · exact ⟨_, _, _, _, h.1 h0⟩

theorem insert1_T (t : Tb) (b p : Nat) (cA iA : Option Addr) (cc ic in_ : Nat) (w0 w : World) (lv : Value) (cs : List Value) (l : List (List Vl)) (M : Option Addr) (mn mc : Nat) (more : List (List Vl)) (h0 : chkF t l = 0)
    (hW : Way t.m cA t.cols.length cc t.key iA in_ ic w0 w b lv cs l) (hp : w0.cell? ⟨p, 0, none⟩ = some (.slice M mn mc)) (hl : mn = more.length) (hr : RdR w0 M more) (hc : RdC w0 cA t.cols) (hmn : more.length ≤ 9223372036854775807) :
    Calls Try.prog 18 #[.pointer (some ⟨b, 0, none⟩), .pointer (some ⟨p, 0, none⟩)] w (WayPost t.m cA t.cols.length cc t.key iA in_ ic w0 b (insF (fitR t.cols) t.key.toNat l more)) := by
  obtain ⟨h256, hT, hfit, hs⟩ := chkF_zero h0
  obtain ⟨k1, k2, kk, hk, hkk⟩ := tblB_key hT
  obtain ⟨m, cols, key, idx⟩ := t
  dsimp only at hk hkk k2 hW hc hfit hs ⊢
  subst hk
  rw [Int.toNat_natCast] at hs ⊢
  exact insert1_any b p m cA iA cc ic in_ kk cols w0 w lv cs l M mn mc more hW hp hl hr hc hmn h256 k2 hkk hs hfit
theorem delete1_T (t : Tb) (b p : Nat) (cA iA : Option Addr) (cc ic in_ : Nat) (w0 w : World) (lv : Value) (cs : List Value) (l : List (List Vl)) (M : Option Addr) (mn mc : Nat) (ks : List Vl) (h0 : chkF t l = 0)
    (hW : Way t.m cA t.cols.length cc t.key iA in_ ic w0 w b lv cs l) (hp : w0.cell? ⟨p, 0, none⟩ = some (.slice M mn mc)) (hl : mn = ks.length) (hr : RdL w0 M ks) (hmn : ks.length ≤ 9223372036854775807) :
    Calls Try.prog 23 #[.pointer (some ⟨b, 0, none⟩), .pointer (some ⟨p, 0, none⟩)] w (WayPost t.m cA t.cols.length cc t.key iA in_ ic w0 b (delF t.key.toNat l ks)) := by
  obtain ⟨h256, hT, hfit, hs⟩ := chkF_zero h0
  obtain ⟨k1, k2, kk, hk, hkk⟩ := tblB_key hT
  obtain ⟨m, cols, key, idx⟩ := t
  dsimp only at hk hkk k2 hW hfit hs ⊢
  subst hk
  rw [Int.toNat_natCast] at hs ⊢
  exact delete1_any b p m cA iA cols.length cc ic in_ kk w0 w lv cs l M mn mc ks hW hp hl hr hmn h256 (fun r hr => by rw [fitR_len (hfit r hr)]; exact hkk) hs
theorem update1_T (t : Tb) (b p q : Nat) (cA iA : Option Addr) (cc ic in_ : Nat) (w0 w : World) (lv : Value) (cs : List Value) (l : List (List Vl)) (K : Option Addr) (kn kc : Nat) (ks : List Vl) (M : Option Addr) (mn mc : Nat) (more : List (List Vl)) (h0 : chkF t l = 0)
    (hW : Way t.m cA t.cols.length cc t.key iA in_ ic w0 w b lv cs l) (hp : w0.cell? ⟨p, 0, none⟩ = some (.slice K kn kc)) (hq : w0.cell? ⟨q, 0, none⟩ = some (.slice M mn mc)) (hkl : kn = ks.length) (hkr : RdL w0 K ks) (hkn : ks.length ≤ 9223372036854775807) (hl : mn = more.length) (hr : RdR w0 M more) (hc : RdC w0 cA t.cols) (hmn : more.length ≤ 9223372036854775807) :
    Calls Try.prog 25 #[.pointer (some ⟨b, 0, none⟩), .pointer (some ⟨p, 0, none⟩), .pointer (some ⟨q, 0, none⟩)] w (WayPost t.m cA t.cols.length cc t.key iA in_ ic w0 b (updF (fitR t.cols) t.key.toNat l ks more)) := by
  obtain ⟨h256, hT, hfit, hs⟩ := chkF_zero h0
  obtain ⟨k1, k2, kk, hk, hkk⟩ := tblB_key hT
  obtain ⟨m, cols, key, idx⟩ := t
  dsimp only at hk hkk k2 hW hc hfit hs ⊢
  subst hk
  rw [Int.toNat_natCast] at hs ⊢
  exact update1_any b p q m cA iA cc ic in_ kk cols w0 w lv cs l K kn kc ks M mn mc more hW hp hq hkl hkr hkn hl hr hc hmn h256 k2 hkk hs hfit
theorem insF_few {t : Tb} {ls more : List (List Vl)} (h0 : chkF t ls = 0) (h1 : (insF (fitR t.cols) t.key.toNat ls more).1 = 0) : (insF (fitR t.cols) t.key.toNat ls more).2.length ≤ 256 := by
  obtain ⟨h256, hT, hfit, hs⟩ := chkF_zero h0
  have hz : insF (fitR t.cols) t.key.toNat ls more = (0, (insF (fitR t.cols) t.key.toNat ls more).2) := by rw [← h1]
  exact (insF_ok _ _ _ _ _ hs hz).few h256
theorem delF_few {t : Tb} {ls : List (List Vl)} {ks : List Vl} (h0 : chkF t ls = 0) (_ : (delF t.key.toNat ls ks).1 = 0) : (delF t.key.toNat ls ks).2.length ≤ 256 :=
  Nat.le_trans (delF_sub _ ks ls).2 (chkF_zero h0).1
theorem updF_few {t : Tb} {ls : List (List Vl)} {ks : List Vl} {more : List (List Vl)} (h0 : chkF t ls = 0) (h1 : (updF (fitR t.cols) t.key.toNat ls ks more).1 = 0) : (updF (fitR t.cols) t.key.toNat ls ks more).2.length ≤ 256 := by
  obtain ⟨h256, hT, hfit, hs⟩ := chkF_zero h0
  unfold updF at h1 ⊢
  split
  · exact h256
  · rename_i ha
    rw [if_neg ha] at h1
    split
    · exact h256
    · rename_i hb
      rw [if_neg hb] at h1
      have hz : insF (fitR t.cols) t.key.toNat (delF t.key.toNat ls ks).2 more = (0, (insF (fitR t.cols) t.key.toNat (delF t.key.toNat ls ks).2 more).2) := by rw [← h1]
      exact (insF_ok _ _ _ _ _ (delF_srt _ _ _ hs) hz).few (Nat.le_trans (delF_sub _ ks ls).2 h256)

set_option maxHeartbeats 2000000 in
theorem rInsert_any (t : Tb) (cA iA : Option Addr) (cc ic : Nat) (A M : Option Addr) (n c mn mc : Nat) (ls more : List (List Vl)) (w : World) (ht : RdT w t cA iA) (hl : n = ls.length) (hr : RdR w A ls) (hA : A = none → n = 0) (hn : ls.length ≤ 9223372036854775807)
    (hml : mn = more.length) (hmr : RdR w M more) (hmn : more.length ≤ 9223372036854775807) :
    Calls Try.prog 7 #[tbl t.m cA t.cols.length cc t.key iA t.idx.length ic, .slice A n c, .slice M mn mc] w (TurnPost w (insR t ls more)) := by
  subst hl hml
  have hB2 := (below1 w (.cells #[.string t.m, .slice cA t.cols.length cc, .int .i64 t.key, .slice iA t.idx.length ic] 30)).alloc (by simp) (.cells #[.slice M more.length mc] 26)
  have hT := turn_insert t cA iA cc ic A ls.length c (w.heap.size + 1) ls (insF (fitR t.cols) t.key.toNat ls more) _ (ht.below hB2) rfl (hr.below hB2) hA hn (fun h0 w0 w1 b lv cs hb hw => insert1_T t b (w.heap.size + 1) cA iA cc ic t.idx.length w0 w1 lv cs ls M more.length mc more h0 hw (box_cell hb (by simp)) rfl ((hmr.below hB2).below hb) ((ht.below hB2).below hb).c hmn) insF_few
  have hi : insR t ls more = trnF t ls (insF (fitR t.cols) t.key.toNat ls more) := rfl
  rw [hi]
  generalize trnF t ls (insF (fitR t.cols) t.key.toNat ls more) = R at hT ⊢
  have HT := Lib.hid hT
  have HB2 := Lib.hid hB2
  clear ht hr hmr hT hB2 hi hA
  go_enter Try.func7, Try.ntmps7
  go_wp2_with (go_at_call 17; (with_reducible refine HT.out.mono ?_); intro e w1 hp; have HP := Lib.hid hp; obtain ⟨A2, n2, c2, E, rfl⟩ := hp.form; clear hp)
  go_ret2
  exact HP.out.out HB2.out
set_option maxHeartbeats 2000000 in
theorem rDelete_any (t : Tb) (cA iA : Option Addr) (cc ic : Nat) (A M : Option Addr) (n c mn mc : Nat) (ls : List (List Vl)) (ks : List Vl) (w : World) (ht : RdT w t cA iA) (hl : n = ls.length) (hr : RdR w A ls) (hA : A = none → n = 0) (hn : ls.length ≤ 9223372036854775807)
    (hml : mn = ks.length) (hmr : RdL w M ks) (hmn : ks.length ≤ 9223372036854775807) :
    Calls Try.prog 12 #[tbl t.m cA t.cols.length cc t.key iA t.idx.length ic, .slice A n c, .slice M mn mc] w (TurnPost w (delR t ls ks)) := by
  subst hl hml
  have hB2 := (below1 w (.cells #[.string t.m, .slice cA t.cols.length cc, .int .i64 t.key, .slice iA t.idx.length ic] 30)).alloc (by simp) (.cells #[.slice M ks.length mc] 37)
  have hT := turn_delete t cA iA cc ic A ls.length c (w.heap.size + 1) ls (delF t.key.toNat ls ks) _ (ht.below hB2) rfl (hr.below hB2) hA hn (fun h0 w0 w1 b lv cs hb hw => delete1_T t b (w.heap.size + 1) cA iA cc ic t.idx.length w0 w1 lv cs ls M ks.length mc ks h0 hw (box_cell hb (by simp)) rfl ((hmr.below hB2).below hb) hmn) delF_few
  have hi : delR t ls ks = trnF t ls (delF t.key.toNat ls ks) := rfl
  rw [hi]
  generalize trnF t ls (delF t.key.toNat ls ks) = R at hT ⊢
  have HT := Lib.hid hT
  have HB2 := Lib.hid hB2
  clear ht hr hmr hT hB2 hi hA
  go_enter Try.func12, Try.ntmps12
  go_wp2_with (go_at_call 17; (with_reducible refine HT.out.mono ?_); intro e w1 hp; have HP := Lib.hid hp; obtain ⟨A2, n2, c2, E, rfl⟩ := hp.form; clear hp)
  go_ret2
  exact HP.out.out HB2.out
set_option maxHeartbeats 2000000 in
theorem rUpdate_any (t : Tb) (cA iA : Option Addr) (cc ic : Nat) (A K M : Option Addr) (n c kn kc mn mc : Nat) (ls : List (List Vl)) (ks : List Vl) (more : List (List Vl)) (w : World) (ht : RdT w t cA iA) (hl : n = ls.length) (hr : RdR w A ls) (hA : A = none → n = 0) (hn : ls.length ≤ 9223372036854775807)
    (hkl : kn = ks.length) (hkr : RdL w K ks) (hkn : ks.length ≤ 9223372036854775807) (hml : mn = more.length) (hmr : RdR w M more) (hmn : more.length ≤ 9223372036854775807) :
    Calls Try.prog 16 #[tbl t.m cA t.cols.length cc t.key iA t.idx.length ic, .slice A n c, .slice K kn kc, .slice M mn mc] w (TurnPost w (updR t ls ks more)) := by
  subst hl hkl hml
  have hB3 := ((below1 w (.cells #[.string t.m, .slice cA t.cols.length cc, .int .i64 t.key, .slice iA t.idx.length ic] 30)).alloc (by simp) (.cells #[.slice K ks.length kc] 37)).alloc (by simp; omega) (.cells #[.slice M more.length mc] 26)
  have hT := turn_update t cA iA cc ic A ls.length c (w.heap.size + 1) (w.heap.size + 1 + 1) ls (updF (fitR t.cols) t.key.toNat ls ks more) _ (ht.below hB3) rfl (hr.below hB3) hA hn (fun h0 w0 w1 b lv cs hb hw => update1_T t b (w.heap.size + 1) (w.heap.size + 1 + 1) cA iA cc ic t.idx.length w0 w1 lv cs ls K ks.length kc ks M more.length mc more h0 hw (box_cell (((below1 _ _)).trans (hb.mono (by simp))) (by simp)) (box_cell hb (by simp)) rfl ((hkr.below hB3).below hb) hkn rfl ((hmr.below hB3).below hb) ((ht.below hB3).below hb).c hmn) updF_few
  have hi : updR t ls ks more = trnF t ls (updF (fitR t.cols) t.key.toNat ls ks more) := rfl
  rw [hi]
  generalize trnF t ls (updF (fitR t.cols) t.key.toNat ls ks more) = R at hT ⊢
  have HT := Lib.hid hT
  have HB3 := Lib.hid hB3
  clear ht hr hmr hkr hT hB3 hi hA
  go_enter Try.func16, Try.ntmps16
  go_wp2_with (go_at_call 17; (with_reducible refine HT.out.mono ?_); intro e w1 hp; have HP := Lib.hid hp; obtain ⟨A2, n2, c2, E, rfl⟩ := hp.form; clear hp)
  go_ret2
  exact HP.out.out HB3.out
end Go.Proofs.Ytjbebhhoakmceaa
