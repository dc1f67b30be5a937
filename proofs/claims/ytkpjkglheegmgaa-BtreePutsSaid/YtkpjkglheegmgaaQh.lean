/- What a row of puts makes of the tree of no pairs, and the example's five: plain mathematics. Conditions: none. -/
import Derived.RangeFuncNested
import Derived.RangeFuncCalls
import Derived.RangeFuncBox
import Derived.Shelf.RegionOpen
import Derived.Test.YtkpjkglheegmgaaQg
/- How many pairs a tree holds: the walk of count. Conditions: a tree that may be, read in memory. -/
namespace Go.Proofs.Ytkpjkglheegmgaa
open Go.RowKit Go.Shelf
set_option linter.unusedSimpArgs false
set_option linter.unusedVariables false
attribute [local go_sem] Oper.semAt_some

def noK : Key := ⟨⟨#[]⟩, by decide⟩
set_option maxRecDepth 100000 in
set_option maxHeartbeats 2000000 in
theorem count_any (n : Nat) (t : Tr) (g a b : Nat) (lo hi : Bd) (F : List Nat) (w : World) (ho : Ok n a b lo hi t) (hb6 : b ≤ 6) (hr : RdN n w g t F) (hN : (handT n t noK).length ≤ 1000000) :
    Calls Try.prog 36 #[ptr g] w fun e w' => e = .returned (.int .i64 (handT n t noK).length) ∧ Below w.heap.size w w' := by
  have HP := Lib.hid fun w => callsIn_wide (n := 2).2 (pairs_any g ⟨#[]⟩ w)
  have hB : Below w.heap.size w (((w.alloc (.cells #[.int .i64 0] 3)).alloc (.cells #[ptr g] 67)).alloc (.cells #[.string ⟨#[]⟩] 9)) := (below2 _ _ _).alloc (by simp; omega) _
  have HS := Lib.hid (pairs_stops n t g a b lo hi F noK w _ ho hb6 hr hB 2 (w.heap.size + 1) (w.heap.size + 2) (by simp) (by simp) (by
    have := heap_alloc_new (w.alloc (.cells #[.int .i64 0] 3)) (.cells #[ptr g] 67)
    rw [World.size_alloc] at this
    have h2 := (Below.heap_alloc ((w.alloc (.cells #[.int .i64 0] 3)).alloc (.cells #[ptr g] 67)) (.cells #[.string ⟨#[]⟩] 9) (w.heap.size + 1) (by simp)).trans this
    unfold World.cell?; rw [h2]; rfl) (by
    have := heap_alloc_new ((w.alloc (.cells #[.int .i64 0] 3)).alloc (.cells #[ptr g] 67)) (.cells #[.string ⟨#[]⟩] 9)
    rw [World.size_alloc, World.size_alloc] at this
    unfold World.cell?; rw [this]; rfl))
  have hx : (((w.alloc (.cells #[.int .i64 0] 3)).alloc (.cells #[ptr g] 67)).alloc (.cells #[.string ⟨#[]⟩] 9)).heap[w.heap.size]? = some (.cells #[.int .i64 0] 3 (0, 0)) :=
    (Below.heap_alloc _ _ _ (by simp; omega)).trans ((Below.heap_alloc _ _ _ (by simp)).trans (heap_alloc_new w _))
  have HX := Lib.hid hx
  have HBB := Lib.hid hB
  clear hx hB hr ho
  refine (callsIn_wide (n := 3)).1 ?_
  refine callsIn_of_wp_marks Try.func36 rfl trivial ?_ rfl
  simp only [Try.ntmps36, List.size_toArray, List.length_cons, List.length_nil, Nat.reduceAdd, Nat.reduceSub, Array.replicate_succ, Array.replicate_zero, List.push_toArray, List.append_toArray, List.nil_append, List.cons_append]
  gi_wp2_with (first | (refine ⟨trivial, ?_⟩; gi_at_call 27; refine (HP.out _).mono ?_; rintro e w2 ⟨rfl, rfl⟩))
  have hS := HS.out
  have hX := HX.out
  have hB2 := HBB.out
  clear HS HX HBB HP
  generalize ((w.alloc (.cells #[.int .i64 0] 3)).alloc (.cells #[ptr g] 67)).alloc (.cells #[.string ⟨#[]⟩] 9) = V at *
  have c0 : V.cell? ⟨w.heap.size, 0, none⟩ = some (.int .i64 0) := by unfold World.cell?; rw [hX]; rfl
  have f0 : V.frozen? ⟨w.heap.size, 0, none⟩ = false := by simp [World.frozen?, hX]
  clear hX
  refine wpIn_rangeFunc_ownH rfl (by decide) (gf := 43) (lb := #[.pointer (some ⟨w.heap.size + 1, 0, none⟩), .pointer (some ⟨w.heap.size + 1 + 1, 0, none⟩)]) rfl trivial (enters_of Try.func43 (by kernel_rfl) rfl)
    hS (fun a b => belowK_t a b) (fun W l o o' hl hlo hc hw => belowK_b (w := V) hB2.size W l o o' hl hlo hc hw) (Below.refl _ _) (fun _ => rfl)
    (fun pre W => (W.cell? ⟨w.heap.size, 0, none⟩ = some (.int .i64 (pre.length : Int)) ∧ W.frozen? ⟨w.heap.size, 0, none⟩ = false) ∧ Below w.heap.size w W)
    (fun _ _ _ => False)
    (OwnFrom.and (Own.from (fun s A B row hs hg hr => ⟨cell_kept hs.1 hg hr, (frozen_kept hs.1 hg hr).trans hs.2⟩) _) (ownFrom_below (Nat.le_refl _) hB2.size))
    (fun _ => Own.from (fun _ _ _ _ hs _ _ => hs) _)
    ⟨⟨c0, f0⟩, hB2⟩
    (fun x a' W => a' = { tmps := #[ptr g, undef, .int .i64 0, .pointer (some ⟨w.heap.size, 0, none⟩), ptr g, .func (.func 43) #[] #[.pointer (some ⟨w.heap.size + 1, 0, none⟩), .pointer (some ⟨w.heap.size + 1 + 1, 0, none⟩)], pval x, undef, undef, undef], defers := [] })
    (fun x a' => Own.from (fun _ _ _ _ hs _ _ => hs) _)
    ?assign ?body ?done ?stop
  case assign =>
    rintro l pre x W K hI hK
    gi_wp2
    exact hK _ _ ((KeepsOthers.refl _).from _) (Below.refl _ _) hI (by simp)
  case body =>
    rintro l pre x act W hl ⟨r, hrr⟩ ⟨⟨hc, hf⟩, hBW⟩ rfl hlt
    have h63 : (pre.length : Int) + 1 ≤ 1000000 := by omega
    have hw1 : IntKind.i64.wrap ((pre.length : Int) + 1) = (pre.length : Int) + 1 := IntWalk.i64_in _ (by omega)
    gi_wp2
    exact ⟨(KeepsOthers.setCell _ _ _).from _, (Below.refl w.heap.size W).setCell (p := ⟨w.heap.size, 0, none⟩) (Nat.le_refl _) _, ⟨by rw [List.length_append]; exact World.cell?_setCell_same' _ _ _ (by rw [hc]; rfl), by rw [World.frozen?_setCell]; exact hf⟩, hBW.setCell (p := ⟨w.heap.size, 0, none⟩) (Nat.le_refl _) _⟩
  case done =>
    rintro D xs W hD rfl ⟨⟨hc, _⟩, hBW⟩ hK
    gi_wp2
    refine ⟨by simp, .inl ⟨_, _, rfl, run_takeDeferred hK, ?_⟩⟩
    refine ⟨.int .i64 ((handT n t noK).length : Int), ?_, rfl, hBW.trans (belowK_b (w := w) (Nat.le_refl _) _ D _ _ (by have := hB2.size; omega) hK rfl rfl)⟩
    simp [results, Try.results36, go_sem]
  case stop =>
    rintro D c pre W _ _ h _
    exact h.elim
end Go.Proofs.Ytkpjkglheegmgaa
/- All pairs of a tree, handed on from the empty key. Conditions: none. -/
namespace Go.Proofs.Ytkpjkglheegmgaa

theorem noK_le (x : Key) : ¬ x < noK := by
  rw [lt_def]
  have e : noK.s.toList = [] := by
    have : noK.s = ByteArray.empty := rfl
    rw [this, ByteArray.toList_eq]; rfl
  rw [e]
  exact List.not_lt_nil _
theorem prs_ne : ∀ (n : Nat) {a b : Nat} {lo hi : Bd} {t : Tr}, Ok n a b lo hi t → 1 ≤ a → prs n t ≠ []
  | 0, a, b, lo, hi, t, h, ha => by
    have h1 := h.len
    have h2 : t.vs.length = t.ks.length := h.shape
    intro e
    have h3 : (t.ks.zip t.vs).length = 0 := by rw [show t.ks.zip t.vs = [] from e]; rfl
    rw [List.length_zip] at h3
    omega
  | n + 1, a, b, lo, hi, t, h, ha => by
    obtain ⟨c, e, _, hc⟩ := h.about (i := 0) (Nat.zero_le _)
    obtain ⟨x, hx⟩ := List.exists_mem_of_ne_nil _ (prs_ne n hc (by decide))
    intro e2
    have : x ∈ prs (n + 1) t := by
      rw [prs_succ]
      exact List.mem_flatMap.2 ⟨c, List.mem_of_getElem? e, hx⟩
    rw [e2] at this
    cases this
theorem hand_all : ∀ (n : Nat) {a b : Nat} {lo hi : Bd} {t : Tr}, Ok n a b lo hi t → handT n t noK = prs n t
  | 0, a, b, lo, hi, t, h => by
    have : pos t.ks noK = 0 := by
      cases t.ks with
      | nil => rfl
      | cons x l => rw [pos, if_neg (noK_le x)]
    show (t.ks.zip t.vs).drop (pos t.ks noK) = _
    rw [this]; rfl
  | n + 1, a, b, lo, hi, t, h => by
    have : tow t.ks noK = 0 := by
      cases hk : t.ks with
      | nil => rfl
      | cons x l =>
        have hlt : noK < x := by
          obtain ⟨c, e, _, hc⟩ := h.about (i := 0) (Nat.zero_le _)
          obtain ⟨y, hy⟩ := List.exists_mem_of_ne_nil _ (prs_ne n hc (by decide))
          have h1 := (prs_in n _ _ _ hc y hy).2 x (by rw [hk]; rfl)
          have h2 := noK_le y.1
          grind
        rw [tow, if_neg (fun hle => by grind)]
    show (t.cs.drop (tow t.ks noK)).flatMap (fun c => handT n c noK) = t.cs.flatMap (prs n)
    rw [this, List.drop_zero]
    have key : ∀ (l : List Tr), (∀ c ∈ l, handT n c noK = prs n c) → l.flatMap (fun c => handT n c noK) = l.flatMap (prs n) := fun l hl => by
      induction l with
      | nil => rfl
      | cons c l ih => rw [List.flatMap_cons, List.flatMap_cons, hl c (by simp), ih fun c hc => hl c (by simp [hc])]
    refine key _ fun c hc => ?_
    obtain ⟨i, hi, rfl⟩ := List.getElem_of_mem hc
    have hl := h.kids
    obtain ⟨c', e, _, hco⟩ := h.about (i := i) (by omega)
    rw [List.getElem?_eq_getElem hi] at e
    injection e with e
    subst e
    exact hand_all n hco
end Go.Proofs.Ytkpjkglheegmgaa
/- A pair put into a state: the walk of Put. Conditions: a state that is read in memory. -/
namespace Go.Proofs.Ytkpjkglheegmgaa
open Go.RowKit
set_option linter.unusedSimpArgs false
set_option linter.unusedVariables false

/-- What Put answers. -/
def PutPost (R : Option (Nat × Tr)) (k v : Key) (w : World) (e : Ending) (w' : World) : Prop :=
  Below w.heap.size w w' ∧ match R with
  | none => e = .returned (.tuple #[.agg #[.slice none 0 0, .int .i64 0], .int .i64 9])
  | some (n, t) => if 2048 < (prs n (putT n t k v)).length then e = .returned (.tuple #[.agg #[.slice none 0 0, .int .i64 0], .int .i64 51])
    else ∃ s, e = .returned (.tuple #[s, .int .i64 0]) ∧ StateB w' w.heap.size s (layS (rootT n (putT n t k v)).1 (rootT n (putT n t k v)).2)

theorem aft_len (k v : Key) (d : Bool) : ∀ l, (aft k v d l).length ≤ l.length + 1 := by
  intro l
  induction l generalizing d with
  | nil => rw [aft]; split <;> simp
  | cons p l ih =>
    rw [aft]
    have h1 := aft_laid k v l
    have h2 := List.length_filter_le (fun p : Pr => decide (p.1 ≠ k)) l
    rw [← h1] at h2
    have h3 : (if p.1 ≠ k then [p] else []).length ≤ 1 := by split <;> simp
    cases d with
    | true =>
      rw [if_neg (by simp), Bool.true_or, List.nil_append, List.length_append, List.length_cons]
      omega
    | false =>
      by_cases hk : k ≤ p.1
      · rw [if_pos ⟨rfl, hk⟩, decide_eq_true hk, Bool.or_true]
        simp only [List.length_append, List.length_cons, List.length_nil]
        omega
      · have h4 := ih false
        rw [if_neg (fun h => hk h.2), decide_eq_false hk, Bool.or_false, List.nil_append, List.length_append, List.length_cons]
        omega
theorem cs_few {m a b : Nat} {lo hi : Bd} {t : Tr} (h : Ok m a b lo hi t) (hb : b ≤ 6) : t.cs.length ≤ 1000 := by
  cases m with
  | zero => rw [h.leaf.2 rfl]; simp
  | succ m => have := h.kids; have := h.len; omega
theorem lay_few {m : Nat} {t : Tr} (h : Good m t) (hp : (prs m t).length ≤ 2048) : (lay m t []).length ≤ 1000000 := by
  have h1 := (lay_pre m t []).2
  have h2 : cnt m t ≤ 2048 := by
    cases m with
    | zero => show 1 ≤ 2048; omega
    | succ m => exact Nat.le_trans (cnt_root (m + 1) (by have h' := h; unfold Good at h'; rwa [show min (m + 1) 1 = 1 by omega] at h')) hp
  rw [h1]
  simp
  omega
def RC (W : World) (b : Nat) : Prop := W.heap[b]? = some (.cells #[.slice none 0 0, .int .i64 0] 27 (0, 0))
theorem RC.cells {W : World} {b : Nat} (h : RC W b) : W.cell? ⟨b, 0, none⟩ = some (.slice none 0 0) ∧ W.cell? ⟨b, 1, none⟩ = some (.int .i64 0) ∧ W.frozen? ⟨b, 0, none⟩ = false ∧ W.frozen? ⟨b, 1, none⟩ = false := by
  unfold RC at h
  simp [World.cell?, World.frozen?, h]
theorem RC.end_ {W : World} {b : Nat} (h : RC W b) (x y : Value) : ((W.setCell ⟨b, 0, none⟩ x).setCell ⟨b, 1, none⟩ y).cell? ⟨b, 0, none⟩ = some x ∧ ((W.setCell ⟨b, 0, none⟩ x).setCell ⟨b, 1, none⟩ y).cell? ⟨b, 1, none⟩ = some y ∧ ∀ b', b' ≠ b → ((W.setCell ⟨b, 0, none⟩ x).setCell ⟨b, 1, none⟩ y).heap[b']? = W.heap[b']? := by
  have h1 := heap_setCell_same W b 0 _ _ x h
  have h2 := heap_setCell_same _ b 1 _ _ y h1
  refine ⟨by simp [World.cell?, h2], by simp [World.cell?, h2], fun b' hb => ?_⟩
  rw [heap_setCell_other _ ⟨b, 1, none⟩ b' y hb, heap_setCell_other _ ⟨b, 0, none⟩ b' x hb]

set_option maxRecDepth 100000 in
set_option maxHeartbeats 2000000 in
theorem put_state (nodes : List Nd) (n c : Nat) (A : Option Addr) (root : Int) (k v : Key) (w : World) (hS : RdS w A n nodes) (hW : Wfn nodes) (hr : -9223372036854775808 ≤ root ∧ root ≤ 9223372036854775807) :
    Calls Try.prog 21 #[.agg #[.slice A n c, .int .i64 root], .string k.s, .string v.s] w (PutPost (rdS nodes root) k v w) := by
  have HRD := Lib.hid fun (W : World) (hb : Below w.heap.size w W) => read_any nodes n c A root W (hS.below hb) hW hr
  clear hS hW hr
  cases hR : rdS nodes root with
  | none =>
    rw [hR] at HRD
    go_enter Try.func21, Try.ntmps21
    go_upto_region 2 with (first | (go_at_call 26; (with_reducible refine (HRD.out _ (below2 _ _ _)).mono ?_); rintro e w1 ⟨rfl, hb1⟩; have HB1 := Lib.hid hb1; clear hb1))
    have hrc : RC w1 (w.heap.size + 1) := (HB1.out.block _ (by simp)).trans (by have := heap_alloc_new (w.alloc (.cells #[.slice A n c, .int .i64 root] 27)) (.cells #[.slice none 0 0, .int .i64 0] 27); rw [World.size_alloc] at this; exact this)
    have hbw := thn (below2 w _ _) HB1.out
    obtain ⟨p0, p1, f0, f1⟩ := hrc.cells
    have HE := Lib.hid (hrc.end_ (.slice none 0 0) (.int .i64 0))
    clear HB1 HRD hrc
    go_wp2
    obtain ⟨r0, r1, _⟩ := HE.out
    exact bodyPost_ret (v := .tuple #[.agg #[.slice none 0 0, .int .i64 0], .int .i64 9]) (by simp [results, Try.results21, go_sem, r0, r1]) rfl ⟨(hbw.setCell (p := ⟨w.heap.size + 1, 0, none⟩) (by simp) _).setCell (p := ⟨w.heap.size + 1, 1, none⟩) (by simp) _, rfl⟩
  | some r =>
    obtain ⟨m, t⟩ := r
    obtain ⟨hG, hp, _, _⟩ := rdS_ok hR
    rw [hR] at HRD
    go_enter Try.func21, Try.ntmps21
    go_upto_region 2 with (first | (go_at_call 26; (with_reducible refine (HRD.out _ (below2 _ _ _)).mono ?_); rintro e w1 ⟨g, F, rfl, hrd, hF, hnd, hb1⟩; have HB1 := Lib.hid hb1; have HTR := Lib.hid hrd; have HFF := Lib.hid hF; have HND := Lib.hid hnd; clear hb1 hrd hF hnd))
    have hrc : RC w1 (w.heap.size + 1) := (HB1.out.block _ (by simp)).trans (by have := heap_alloc_new (w.alloc (.cells #[.slice A n c, .int .i64 root] 27)) (.cells #[.slice none 0 0, .int .i64 0] 27); rw [World.size_alloc] at this; exact this)
    have hbw := thn (below2 w _ _) HB1.out
    have hF1 : ∀ b ∈ F, w.heap.size + 1 < b := fun b hb => by have := HFF.out b hb; simp at this; omega
    have hok := put_ok m hG k v (ge_none k) (bel_none k) (by omega)
    have hsz : w.heap.size + 1 < w1.heap.size := heap_lt hrc
    have HPU := Lib.hid (put_any m (min m 1) none none t g F k v w1 hG (ge_none k) (bel_none k) (by omega) HTR.out HND.out)
    go_upto_region 5 with (first | (go_at_call 35; (with_reducible refine HPU.out.mono ?_); rintro e w2 ⟨rfl, hu⟩; have HU := Lib.hid hu; clear hu))
    obtain ⟨F2, r2, n2, s2, f2⟩ := HU.out
    have hrc2 : RC w2 (w.heap.size + 1) := (f2.block _ hsz (fun h => by have := hF1 _ h; omega)).trans hrc
    have hbw2 := hbw.trans (f2.below (B := w.heap.size) (by omega) fun x hx => by have := hF1 x hx; omega)
    have hF2 : ∀ b ∈ F2, w.heap.size + 1 < b := fun b hb => by
      rcases s2 b hb with h | h
      · exact hF1 b h
      · omega
    have hpl := aft_len k v false (prs m t)
    rw [← hok.2.1] at hpl
    have HA := Lib.hid (hand_all m hok.1)
    have HC := Lib.hid (count_any m (putT m t k v) g _ 5 none none F2 w2 hok.1 (by omega) r2 (by rw [HA.out]; omega))
    rw [HA.out] at HC
    have HGD := Lib.hid (put_good hG k v)
    have HOK := Lib.hid hok.1
    have HAF := Lib.hid hok.2.1
    clear HPU HU HB1 HRD HTR HFF HND hrc hbw hF1 f2 s2 hok hG
    by_cases hw : 2048 < (prs m (putT m t k v)).length
    · have hwi : (2048 : Int) < ((prs m (putT m t k v)).length : Int) := by omega
      go_upto_region 6 with (first | (go_at_call 36; (with_reducible refine HC.out.mono ?_); rintro e w3 ⟨rfl, hb3⟩; have HB3 := Lib.hid hb3; clear hb3))
      have hrc3 : RC w3 (w.heap.size + 1) := (HB3.out.block _ (heap_lt hrc2)).trans hrc2
      have hbw3 := thn hbw2 HB3.out
      obtain ⟨p0, p1, f0, f1⟩ := hrc3.cells
      have HE := Lib.hid (hrc3.end_ (.slice none 0 0) (.int .i64 0))
      clear hrc2 hrc3 HB3 HC hbw2
      go_wp2
      obtain ⟨r0, r1, _⟩ := HE.out
      exact bodyPost_ret (v := .tuple #[.agg #[.slice none 0 0, .int .i64 0], .int .i64 51]) (by simp [results, Try.results21, go_sem, r0, r1]) rfl ⟨(hbw3.setCell (p := ⟨w.heap.size + 1, 0, none⟩) (by simp) _).setCell (p := ⟨w.heap.size + 1, 1, none⟩) (by simp) _, by show (if _ then _ else _); rw [if_pos hw]⟩
    · have hwi : ¬ (2048 : Int) < ((prs m (putT m t k v)).length : Int) := by omega
      go_upto_region 7 with (first | (go_at_call 36; (with_reducible refine HC.out.mono ?_); rintro e w3 ⟨rfl, hb3⟩; have HB3 := Lib.hid hb3; clear hb3))
      have hrc3 : RC w3 (w.heap.size + 1) := (HB3.out.block _ (heap_lt hrc2)).trans hrc2
      have hbw3 := thn hbw2 HB3.out
      have h3s := heap_lt hrc3
      have hlen := HOK.out.len
      have HRT := Lib.hid (root_of m (putT m t k v) g F2 w3 (r2.below HB3.out) n2 (by omega) (cs_few HOK.out (by omega)) HOK.out.shape HOK.out.leaf.2)
      obtain ⟨hg2, hp2, _⟩ := HGD.out
      have hll := lay_few hg2 (by rw [hp2, ← HAF.out]; omega)
      have HG2 := Lib.hid hg2
      have HLL := Lib.hid hll
      clear HGD HC HB3 hrc2 hbw2 r2 n2 hg2 hp2 hll HA HAF hpl
      go_upto_region 8 with (first
        | (go_at_call 38; (with_reducible refine HRT.out.mono ?_); rintro e w4 ⟨g', F3, rfl, r3, n3, s3, f3⟩; have hrc4 : RC w4 (w.heap.size + 1) := ((f3.block _ h3s (fun h => by have := hF2 _ h; omega)).trans hrc3); have hbw4 := Lib.hid (hbw3.trans (f3.below (B := w.heap.size) (by omega) fun x hx => by have := hF2 x hx; omega)); have HL := Lib.hid (laidOut_any _ _ 4 none none _ g' F3 w4 HG2.out (by omega) r3 HLL.out); have HRC4 := Lib.hid hrc4; have h4s := heap_lt hrc4; clear r3 n3 s3 f3 hrc4)
        | (go_at_call 37; (with_reducible refine HL.out.mono ?_); rintro e w5 ⟨v5, rfl, sb, hb5⟩; have HSB := Lib.hid sb; obtain ⟨A5, c5, hs5, rfl, _⟩ := sb; have hrc5 : RC w5 (w.heap.size + 1) := (hb5.block _ h4s).trans HRC4.out; have HB5 := Lib.hid (thn hbw4.out hb5); obtain ⟨p0, p1, f0, f1⟩ := hrc5.cells; have HRC5 := Lib.hid hrc5; clear hb5 hrc5))
      obtain ⟨r0, r1, ho⟩ := HRC5.out.end_ (.slice A5 (layS (rootT m (putT m t k v)).1 (rootT m (putT m t k v)).2).1.length c5) (.int .i64 (layS (rootT m (putT m t k v)).1 (rootT m (putT m t k v)).2).2)
      have hst := (HSB.out.le (B' := w.heap.size) (by omega)).keep (w' := (w5.setCell ⟨w.heap.size + 1, 0, none⟩ (.slice A5 (layS (rootT m (putT m t k v)).1 (rootT m (putT m t k v)).2).1.length c5)).setCell ⟨w.heap.size + 1, 1, none⟩ (.int .i64 (layS (rootT m (putT m t k v)).1 (rootT m (putT m t k v)).2).2)) fun b hb => ho b fun e => by subst e; exact hb _ _ HRC5.out
      exact bodyPost_ret (v := .tuple #[.agg #[(.slice A5 (layS (rootT m (putT m t k v)).1 (rootT m (putT m t k v)).2).1.length c5), (.int .i64 (layS (rootT m (putT m t k v)).1 (rootT m (putT m t k v)).2).2)], .int .i64 0]) (by simp [results, Try.results21, go_sem, r0, r1]) rfl ⟨(HB5.out.setCell (p := ⟨w.heap.size + 1, 0, none⟩) (by simp) _).setCell (p := ⟨w.heap.size + 1, 1, none⟩) (by simp) _, by show (if _ then _ else _); rw [if_neg hw]; exact ⟨_, rfl, hst⟩⟩
end Go.Proofs.Ytkpjkglheegmgaa
/- A state asked: the walks of Check, Depth and Get. Conditions: a state that is read in memory. -/
namespace Go.Proofs.Ytkpjkglheegmgaa
open Go.RowKit
set_option linter.unusedSimpArgs false
set_option linter.unusedVariables false

set_option maxRecDepth 100000 in
set_option maxHeartbeats 1000000 in
theorem check_state (nodes : List Nd) (n c : Nat) (A : Option Addr) (root : Int) (w : World) (hS : RdS w A n nodes) (hW : Wfn nodes) (hr : -9223372036854775808 ≤ root ∧ root ≤ 9223372036854775807) :
    Calls Try.prog 16 #[.agg #[.slice A n c, .int .i64 root]] w fun e w' => e = .returned (.int .i64 (if (rdS nodes root).isSome then 0 else 9)) ∧ Below w.heap.size w w' := by
  have HRD := Lib.hid fun (W : World) (hb : Below w.heap.size w W) => read_any nodes n c A root W (hS.below hb) hW hr
  clear hS hW hr
  cases hR : rdS nodes root with
  | none =>
    rw [hR] at HRD
    go_enter Try.func16, Try.ntmps16
    go_wp2_with (first | (go_at_call 26; (with_reducible refine (HRD.out _ (below1 _ _)).mono ?_); rintro e w1 ⟨rfl, hb1⟩; have HB1 := Lib.hid hb1; clear hb1))
    go_ret
    exact ⟨rfl, thn (below1 _ _) HB1.out⟩
  | some r =>
    obtain ⟨m, t⟩ := r
    rw [hR] at HRD
    go_enter Try.func16, Try.ntmps16
    go_wp2_with (first | (go_at_call 26; (with_reducible refine (HRD.out _ (below1 _ _)).mono ?_); rintro e w1 ⟨g, F, rfl, _, _, _, hb1⟩; have HB1 := Lib.hid hb1; clear hb1))
    go_ret
    exact ⟨rfl, thn (below1 _ _) HB1.out⟩

set_option maxRecDepth 100000 in
set_option maxHeartbeats 1000000 in
theorem depth_state (nodes : List Nd) (n c : Nat) (A : Option Addr) (root : Int) (w : World) (hS : RdS w A n nodes) (hW : Wfn nodes) (hr : -9223372036854775808 ≤ root ∧ root ≤ 9223372036854775807) :
    Calls Try.prog 11 #[.agg #[.slice A n c, .int .i64 root]] w fun e w' => Below w.heap.size w w' ∧ match rdS nodes root with
      | none => e = .returned (.tuple #[.int .i64 0, .int .i64 9])
      | some (m, t) => e = .returned (.tuple #[.int .i64 (if t.ks.length = 0 then 0 else ((m : Int) + 1)), .int .i64 0]) := by
  have HRD := Lib.hid fun (W : World) (hb : Below w.heap.size w W) => read_any nodes n c A root W (hS.below hb) hW hr
  clear hS hW hr
  cases hR : rdS nodes root with
  | none =>
    rw [hR] at HRD
    go_enter Try.func11, Try.ntmps11
    go_wp2_with (first | (go_at_call 26; (with_reducible refine (HRD.out _ (below1 _ _)).mono ?_); rintro e w1 ⟨rfl, hb1⟩; have HB1 := Lib.hid hb1; clear hb1))
    go_ret2
    exact ⟨thn (below1 _ _) HB1.out, rfl⟩
  | some r =>
    obtain ⟨m, t⟩ := r
    obtain ⟨hG, hp, _, _⟩ := rdS_ok hR
    rw [hR] at HRD
    have hm : m ≤ 1000000 := by
      have h1 := cnt_deep m hG
      have h2 : (lay m t []).length ≤ 1000000 := lay_few hG hp
      have h3 := (lay_pre m t []).2
      simp at h3
      omega
    have HDP := Lib.hid fun (g : Nat) (F : List Nat) (W : World) (h : RdN m W g t F) => depth_any m t g F W h hm
    show Calls _ _ _ _ fun e w' => Below w.heap.size w w' ∧ e = .returned (.tuple #[.int .i64 (if t.ks.length = 0 then 0 else ((m : Int) + 1)), .int .i64 0])
    generalize (if t.ks.length = 0 then 0 else ((m : Int) + 1)) = D at *
    go_enter Try.func11, Try.ntmps11
    go_wp2_with (first
      | (go_at_call 26; (with_reducible refine (HRD.out _ (below1 _ _)).mono ?_); rintro e w1 ⟨g, F, rfl, hrd, _, _, hb1⟩; have HB1 := Lib.hid hb1; have HD := Lib.hid (HDP.out g F w1 hrd); clear hb1 hrd)
      | (go_at_call 30; (with_reducible refine HD.out.mono ?_); rintro e w2 ⟨rfl, rfl⟩))
    go_ret2
    exact ⟨thn (below1 _ _) HB1.out, rfl⟩

set_option maxRecDepth 100000 in
set_option maxHeartbeats 1000000 in
theorem get_state (nodes : List Nd) (n c : Nat) (A : Option Addr) (root : Int) (k : Key) (w : World) (hS : RdS w A n nodes) (hW : Wfn nodes) (hr : -9223372036854775808 ≤ root ∧ root ≤ 9223372036854775807) :
    Calls Try.prog 13 #[.agg #[.slice A n c, .int .i64 root], .string k.s] w fun e w' => Below w.heap.size w w' ∧ match rdS nodes root with
      | none => e = .returned (.tuple #[.string ⟨#[]⟩, .bool false, .int .i64 9])
      | some (m, t) => e = .returned (.tuple #[.string ((getT m t k).elim ⟨#[]⟩ Key.s), .bool (getT m t k).isSome, .int .i64 0]) := by
  have HRD := Lib.hid fun (W : World) (hb : Below w.heap.size w W) => read_any nodes n c A root W (hS.below hb) hW hr
  clear hS hW hr
  cases hR : rdS nodes root with
  | none =>
    rw [hR] at HRD
    go_enter Try.func13, Try.ntmps13
    go_wp2_with (first | (go_at_call 26; (with_reducible refine (HRD.out _ (below1 _ _)).mono ?_); rintro e w1 ⟨rfl, hb1⟩; have HB1 := Lib.hid hb1; clear hb1))
    exact bodyPost_ret (v := .tuple #[.string ⟨#[]⟩, .bool false, .int .i64 9]) (by simp [results, Try.results13, go_sem]) rfl ⟨thn (below1 _ _) HB1.out, rfl⟩
  | some r =>
    obtain ⟨m, t⟩ := r
    obtain ⟨hG, hp, _, _⟩ := rdS_ok hR
    rw [hR] at HRD
    have hs : ((getT m t k).elim ⟨#[]⟩ Key.s).size ≤ 140737488355328 := by
      cases getT m t k with
      | none => exact Nat.zero_le _
      | some x => exact x.h
    have HG := Lib.hid fun (g : Nat) (F : List Nat) (W : World) (h : RdN m W g t F) => get_any m _ 4 none none t g F k W hG (by omega) h
    have HC := Lib.hid fun W => sClone_any ((getT m t k).elim ⟨#[]⟩ Key.s) W hs
    clear hs
    show Calls _ _ _ _ fun e w' => Below w.heap.size w w' ∧ e = .returned (.tuple #[.string ((getT m t k).elim ⟨#[]⟩ Key.s), .bool (getT m t k).isSome, .int .i64 0])
    generalize (getT m t k).elim ⟨#[]⟩ Key.s = s at *
    generalize (getT m t k).isSome = b at *
    go_enter Try.func13, Try.ntmps13
    go_wp2_with (first
      | (go_at_call 26; (with_reducible refine (HRD.out _ (below1 _ _)).mono ?_); rintro e w1 ⟨g, F, rfl, hrd, _, _, hb1⟩; have HB1 := Lib.hid hb1; have HD := Lib.hid (HG.out g F w1 hrd); clear hb1 hrd)
      | (go_at_call 31; (with_reducible refine HD.out.mono ?_); rintro e w2 ⟨rfl, hb2⟩; have HB2 := Lib.hid hb2; clear hb2)
      | (go_at_call 28; (with_reducible refine (HC.out _).mono ?_); rintro e w3 ⟨rfl, hb3⟩; have HB3 := Lib.hid hb3; clear hb3))
    exact bodyPost_ret (v := .tuple #[.string s, .bool b, .int .i64 0]) (by simp [results, Try.results13, go_sem]) rfl ⟨thn (thn (thn (below1 _ _) HB1.out) HB2.out) HB3.out, rfl⟩
end Go.Proofs.Ytkpjkglheegmgaa
/- Pairs from a key on, and what stands under a key, told of all pairs. Conditions: none. -/
namespace Go.Proofs.Ytkpjkglheegmgaa

/-- A kid of a tree that may be, may be. -/
theorem Ok.kid {n a b : Nat} {lo hi : Bd} {t : Tr} (h : Ok (n + 1) a b lo hi t) {c : Tr} (hc : c ∈ t.cs) : ∃ l u, Ok n 2 4 l u c := by
  obtain ⟨i, hi, rfl⟩ := List.getElem_of_mem hc
  have hl := h.kids
  obtain ⟨c', e, _, hco⟩ := h.about (i := i) (by omega)
  rw [List.getElem?_eq_getElem hi] at e
  injection e with e
  subst e
  exact ⟨_, _, hco⟩
theorem flat_congr {α β : Type} {f g : α → List β} : ∀ (l : List α), (∀ c ∈ l, f c = g c) → l.flatMap f = l.flatMap g
  | [], _ => rfl
  | c :: l, h => by rw [List.flatMap_cons, List.flatMap_cons, h c (by simp), flat_congr l fun c hc => h c (by simp [hc])]
/-- How a pair stands to a key that is looked for: ahead of the kid, or behind it. -/
theorem tow_parts {n a b : Nat} {lo hi : Bd} {t : Tr} (h : Ok (n + 1) a b lo hi t) (k : Key) :
    ∃ c, t.cs[tow t.ks k]? = some c ∧ t.cs = t.cs.take (tow t.ks k) ++ c :: t.cs.drop (tow t.ks k + 1) ∧ (∀ p ∈ (t.cs.take (tow t.ks k)).flatMap (prs n), p.1 < k) ∧ (∀ p ∈ (t.cs.drop (tow t.ks k + 1)).flatMap (prs n), k < p.1) ∧ ∃ l u, Ok n 2 4 l u c := by
  obtain ⟨c, e, hab, hc⟩ := h.about (tow_le t.ks k)
  obtain ⟨t1, t2⟩ := tow_split h.asc k
  refine ⟨c, e, hab.cs, fun p hp => ?_, fun p hp => ?_, _, _, hc⟩
  · obtain ⟨x, hx, hl⟩ := pre_below (fun lo hi t h => prs_in n lo hi t h) _ _ _ hab.pre p hp
    have := t1 x hx; grind
  · obtain ⟨x, hx, hl⟩ := post_above (fun lo hi t h => prs_in n lo hi t h) _ _ hab.post p hp
    have := t2 x hx; grind
theorem filter_none {α : Type} {q : α → Bool} {l : List α} (h : ∀ x ∈ l, q x = false) : l.filter q = [] := List.filter_eq_nil_iff.2 fun x hx => by rw [h x hx]; decide
theorem filter_zip {ks vs : List Key} (hs : Asc ks) (hv : vs.length = ks.length) (k : Key) : (ks.zip vs).drop (pos ks k) = (ks.zip vs).filter (fun p => decide (k ≤ p.1)) := by
  have e : ks.zip vs = (ks.zip vs).take (pos ks k) ++ (ks.zip vs).drop (pos ks k) := (List.take_append_drop _ _).symm
  conv => rhs; rw [e]
  rw [List.filter_append, filter_none, List.nil_append]
  · refine (List.filter_eq_self.2 fun p hp => ?_).symm
    obtain ⟨i, hi, rfl⟩ := List.getElem_of_mem hp
    simp at hi
    rw [List.getElem_drop, List.getElem_zip]
    exact decide_eq_true (pos_above hs (by omega) (by omega))
  · intro p hp
    obtain ⟨i, hi, rfl⟩ := List.getElem_of_mem hp
    simp at hi
    rw [List.getElem_take, List.getElem_zip]
    have := pos_below (l := ks) (x := k) (i := i) (by omega)
    exact decide_eq_false (by grind)
theorem hand_from : ∀ (n : Nat) {a b : Nat} {lo hi : Bd} {t : Tr} (k : Key), Ok n a b lo hi t → handT n t k = (prs n t).filter (fun p => decide (k ≤ p.1))
  | 0, a, b, lo, hi, t, k, h => filter_zip h.asc h.shape k
  | n + 1, a, b, lo, hi, t, k, h => by
    obtain ⟨c, e, hcs, h1, h2, _⟩ := tow_parts h k
    show (t.cs.drop (tow t.ks k)).flatMap (fun c => handT n c k) = (t.cs.flatMap (prs n)).filter _
    rw [flat_congr (g := fun c => (prs n c).filter (fun p => decide (k ≤ p.1))) _ fun c hc => by
      obtain ⟨l, u, hc'⟩ := h.kid (List.mem_of_mem_drop hc)
      exact hand_from n k hc']
    have e2 : t.cs = t.cs.take (tow t.ks k) ++ t.cs.drop (tow t.ks k) := (List.take_append_drop _ _).symm
    conv => rhs; rw [e2]
    rw [List.flatMap_append, List.filter_append, filter_none fun p hp => decide_eq_false (by have := h1 p hp; grind), List.nil_append, List.filter_flatMap]
/-- The first pair of that key. -/
def look (k : Key) (l : List Pr) : Option Key := (l.find? (fun p => decide (p.1 = k))).map (·.2)
theorem look_append (k : Key) (a b : List Pr) (h : ∀ p ∈ a, p.1 ≠ k) : look k (a ++ b) = look k b := by
  unfold look
  rw [List.find?_append, List.find?_eq_none.2 fun p hp => by simpa using h p hp]; rfl
theorem look_ahead (k : Key) (a b : List Pr) (h : ∀ p ∈ b, p.1 ≠ k) : look k (a ++ b) = look k a := by
  unfold look
  have hn : List.find? (fun p => decide (p.1 = k)) b = none := List.find?_eq_none.2 fun p hp => by simpa using h p hp
  rw [List.find?_append, hn]
  cases List.find? (fun p => decide (p.1 = k)) a <;> rfl
theorem get_zip (k : Key) : ∀ {ks vs : List Key}, Asc ks → vs.length = ks.length → (if k ∈ ks then vs[pos ks k]? else none) = look k (ks.zip vs)
  | [], [], _, _ => rfl
  | x :: ks, y :: vs, hs, hl => by
    obtain ⟨h1, h2⟩ := asc_cons.1 hs
    have ih := get_zip k h2 (vs := vs) (by simpa using hl)
    by_cases e : x = k
    · subst e
      have : ¬ x < x := by grind
      rw [if_pos (by simp), pos, if_neg this]
      simp [look]
    · have e1 : look k ((x :: ks).zip (y :: vs)) = look k (ks.zip vs) := by
        rw [List.zip_cons_cons]
        exact look_append k [(x, y)] _ (by simpa using e)
      rw [e1, ← ih]
      by_cases hm : k ∈ ks
      · have := h1 k hm
        rw [if_pos hm, if_pos (by simp [hm]), pos, if_pos this]
        rfl
      · rw [if_neg hm, if_neg (by simp [hm]; exact fun h => e h.symm)]
theorem get_look : ∀ (n : Nat) {a b : Nat} {lo hi : Bd} {t : Tr} (k : Key), Ok n a b lo hi t → getT n t k = look k (prs n t)
  | 0, a, b, lo, hi, t, k, h => get_zip k h.asc h.shape
  | n + 1, a, b, lo, hi, t, k, h => by
    obtain ⟨c, e, hcs, h1, h2, l, u, hc⟩ := tow_parts h k
    have ih := get_look n k hc
    unfold getT
    rw [e, prs_succ, hcs]
    simp only []
    rw [List.flatMap_append, List.flatMap_cons, look_append k _ _ fun p hp => by have := h1 p hp; grind, look_ahead k _ _ fun p hp => by have := h2 p hp; grind, ih]
/-- Pairs below an end; an empty one is none. -/
def Till (u : Key) (p : Pr) : Bool := decide (u = noK) || decide (p.1 < u)
def spanT (l : List Pr) (from_ to_ : Key) : List Pr := l.filter fun p => decide (from_ ≤ p.1) && Till to_ p
theorem till_asc (u : Key) : ∀ {l : List Pr}, Asc (l.map (·.1)) → l.takeWhile (Till u) = l.filter (Till u)
  | [], _ => rfl
  | p :: l, h => by
    obtain ⟨h1, h2⟩ := asc_cons.1 (by simpa using h : Asc (p.1 :: l.map (·.1)))
    cases hp : Till u p with
    | true => rw [List.takeWhile_cons_of_pos hp, List.filter_cons_of_pos hp, till_asc u h2]
    | false =>
      rw [List.takeWhile_cons_of_neg (by simp [hp]), List.filter_cons_of_neg (by simp [hp])]
      refine (filter_none fun q hq => ?_).symm
      have := h1 q.1 (List.mem_map.2 ⟨q, hq, rfl⟩)
      unfold Till at hp ⊢
      simp only [Bool.or_eq_false_iff, decide_eq_false_iff_not] at hp ⊢
      exact ⟨hp.1, by grind⟩
theorem hand_span {n a b : Nat} {lo hi : Bd} {t : Tr} (h : Ok n a b lo hi t) (f u : Key) : (handT n t f).takeWhile (Till u) = spanT (prs n t) f u := by
  rw [hand_from n f h, till_asc, spanT, List.filter_filter]
  · congr 1; funext p; exact Bool.and_comm _ _
  · exact List.Pairwise.sublist (List.Sublist.map _ List.filter_sublist) (prs_asc n _ _ _ h)
end Go.Proofs.Ytkpjkglheegmgaa
namespace Go.Proofs.Ytkpjkglheegmgaa
set_option linter.unusedSimpArgs false
set_option linter.unusedVariables false

/-- A key's text with one sign behind it. -/
def bang (k : Key) : Key := if h : (k.s ++ ⟨#[33]⟩).size ≤ 140737488355328 then ⟨k.s ++ ⟨#[33]⟩, h⟩ else noK
theorem bang_s {k : Key} (h : k.s.size ≤ 1000) : (bang k).s = k.s ++ ⟨#[33]⟩ := by
  unfold bang
  rw [dif_pos (by rw [ByteArray.size_append]; show k.s.size + 1 ≤ _; omega)]
/-- A tree of keys put one after another. -/
def stepT (s : Nat × Tr) (k : Key) : Nat × Tr := rootT s.1 (putT s.1 s.2 k (bang k))
def fil (l : List Key) : Nat × Tr := l.foldl stepT (0, noT)
def filP (l : List Key) : List Pr := l.foldl (fun a k => aft k (bang k) false a) []
theorem good_none : Good 0 noT := ⟨⟨by decide, by decide⟩, Asc.nil, (fun k hk => nomatch hk), rfl, rfl⟩
theorem fold_good : ∀ (l : List Key) (s : Nat × Tr) (a : List Pr), Good s.1 s.2 → prs s.1 s.2 = a → Good (l.foldl stepT s).1 (l.foldl stepT s).2 ∧ prs (l.foldl stepT s).1 (l.foldl stepT s).2 = l.foldl (fun a k => aft k (bang k) false a) a
  | [], s, a, h, e => ⟨h, e⟩
  | k :: l, s, a, h, e => by
    obtain ⟨h1, h2, _⟩ := put_good h k (bang k)
    exact fold_good l (stepT s k) (aft k (bang k) false a) h1 (by rw [← e]; exact h2)
theorem fil_good (l : List Key) : Good (fil l).1 (fil l).2 ∧ prs (fil l).1 (fil l).2 = filP l := fold_good l _ _ good_none rfl
theorem filP_len (l : List Key) : (filP l).length ≤ l.length := by
  have h : ∀ (l : List Key) (a : List Pr), (l.foldl (fun a k => aft k (bang k) false a) a).length ≤ a.length + l.length := fun l => by
    induction l with
    | nil => exact fun a => Nat.le_refl _
    | cons k l ih =>
      intro a
      have := ih (aft k (bang k) false a)
      have := aft_len k (bang k) false a
      rw [List.foldl_cons, List.length_cons]
      omega
  have := h l []
  unfold filP
  simpa using this
theorem fil_take {l : List Key} {j : Nat} (h : j < l.length) : fil (l.take (j + 1)) = stepT (fil (l.take j)) l[j] := by
  unfold fil
  rw [List.take_succ_eq_append_getElem h, List.foldl_append]; rfl

/-- A key of one octet. -/
def k1 (x : UInt8) : Key := ⟨⟨#[x]⟩, by show 1 ≤ _; decide⟩
theorem k1_list (x : UInt8) : (k1 x).s.toList = [x] := by rw [ByteArray.toList_eq]; rfl
theorem k1_lt {x y : UInt8} : k1 x < k1 y ↔ x < y := by
  rw [lt_def, k1_list, k1_list, List.cons_lt_cons_iff]
  simp
theorem k1_le {x y : UInt8} : k1 x ≤ k1 y ↔ x ≤ y := by
  have h := k1_lt (x := y) (y := x)
  have h2 : k1 x ≤ k1 y ↔ ¬ k1 y < k1 x := by grind
  rw [h2, h]
  exact UInt8.not_lt
theorem k1_eq {x y : UInt8} : k1 x = k1 y ↔ x = y := by
  rw [← key_eq, k1_list, k1_list]
  simp
def five : List Key := [k1 99, k1 97, k1 101, k1 98, k1 100]
theorem five_prs : filP five = [(k1 97, bang (k1 97)), (k1 98, bang (k1 98)), (k1 99, bang (k1 99)), (k1 100, bang (k1 100)), (k1 101, bang (k1 101))] := by
  simp [filP, five, aft, k1_le, k1_eq]
theorem five_made : ∃ t, fil five = (1, t) ∧ cnt 1 t = 3 ∧ t.ks.length ≠ 0 ∧ getT 1 t (k1 100) = some (bang (k1 100)) := by
  obtain ⟨hG, hP⟩ := fil_good five
  generalize fil five = s at hG hP
  obtain ⟨n, t⟩ := s
  rw [five_prs] at hP
  dsimp only at hG hP
  have hlen : (prs n t).length = 5 := by rw [hP]; rfl
  match n, hG, hP, hlen with
  | 0, hG, hP, hlen =>
    have h1 := hG.len
    have h2 : t.vs.length = t.ks.length := hG.shape
    have h3 : (t.ks.zip t.vs).length = 5 := hlen
    rw [List.length_zip] at h3
    omega
  | 1, hG, hP, hlen =>
    have hG1 : Ok 1 1 4 none none t := hG
    have hk := hG1.kids
    have hl := hG1.len
    have h1 := sum_ge t.cs (chain_all (fun lo hi t h => prs_least 0 h) _ _ _ hG1.2.2.2.2)
    have h2 : (t.cs.map (fun c => (prs 0 c).length)).sum = 5 := by rw [← len_flat]; exact hlen
    have h3 : t.cs.length = 2 := by omega
    refine ⟨t, rfl, ?_, by omega, ?_⟩
    · rw [cnt]
      match hcs : t.cs, h3 with
      | [a, b], _ => rfl
    · rw [get_look 1 _ hG1, hP]
      simp [look, k1_eq]
  | n + 2, hG, hP, hlen =>
    have hG1 : Ok (n + 2) 1 4 none none t := by have h := hG; unfold Good at h; rwa [show min (n + 2) 1 = 1 by omega] at h
    have h1 : 4 * 3 ^ (n + 1) ≤ (prs (n + 2) t).length := prs_root hG1
    have h2 : 1 ≤ 3 ^ n := Nat.one_le_pow _ _ (by decide)
    rw [Nat.pow_succ] at h1
    omega

/-- Kids' numbers that are laid are such as a machine has. -/
theorem layK_fits (f : Tr → List Nd → List Nd) (hf : ∀ t acc, acc.length ≤ (f t acc).length) : ∀ (cs : List Tr) (acc : List Nd), acc.length ≤ (layK f cs acc).1.length ∧ ∀ a ∈ (layK f cs acc).2, -1 ≤ a ∧ a < ((layK f cs acc).1.length : Int)
  | [], acc => ⟨Nat.le_refl _, fun a h => by cases h⟩
  | c :: cs, acc => by
    obtain ⟨h1, h2⟩ := layK_fits f hf cs (f c acc)
    have h3 := hf c acc
    refine ⟨Nat.le_trans h3 h1, fun a ha => ?_⟩
    rcases List.mem_cons.1 ha with rfl | ha
    · exact ⟨by omega, by show _ < (((layK f cs (f c acc)).1.length : Nat) : Int); omega⟩
    · exact h2 a ha
def FitN (N : Nat) (l : List Nd) : Prop := ∀ x ∈ l, ∀ a ∈ x.kids, -1 ≤ a ∧ a < (N : Int)
theorem lay_fits (N : Nat) : ∀ (n : Nat) (t : Tr) (acc : List Nd), FitN N acc → (lay n t acc).length ≤ N → FitN N (lay n t acc)
  | 0, t, acc, h, hl => fun x hx => by
    rcases List.mem_append.1 hx with hx | hx
    · exact h x hx
    · obtain rfl := List.mem_singleton.1 hx
      exact fun a ha => by cases ha
  | n + 1, t, acc, h, hl => by
    have go : ∀ (cs : List Tr) (acc : List Nd), FitN N acc → (layK (lay n) cs acc).1.length ≤ N → FitN N (layK (lay n) cs acc).1 := by
      intro cs
      induction cs with
      | nil => exact fun acc h _ => h
      | cons c cs ih =>
        intro acc h hl
        have h1 := (layK_pre n cs (lay n c acc)).1.length_le
        have hl' : (layK (lay n) cs (lay n c acc)).1.length ≤ N := hl
        exact ih _ (lay_fits N n c acc h (by omega)) hl'
    have hl2 : ((layK (lay n) t.cs acc).1 ++ [(⟨t.ks, t.vs, (layK (lay n) t.cs acc).2⟩ : Nd)]).length ≤ N := hl
    rw [List.length_append] at hl2
    intro x hx
    rcases List.mem_append.1 hx with hx | hx
    · exact go t.cs acc h (by omega) x hx
    · obtain rfl := List.mem_singleton.1 hx
      intro a ha
      obtain ⟨_, h2⟩ := layK_fits (lay n) (fun t acc => (lay_pre n t acc).1.length_le) t.cs acc
      have := h2 a ha
      omega
theorem layS_wfn {n : Nat} {t : Tr} (h : Good n t) (hp : (prs n t).length ≤ 2048) : Wfn (layS n t).1 ∧ (-9223372036854775808 ≤ (layS n t).2 ∧ (layS n t).2 ≤ 9223372036854775807) ∧ (layS n t).1.length ≤ 1000000 := by
  have h1 := lay_few h hp
  unfold layS
  split
  · exact ⟨(fun x hx => nomatch hx), ⟨by decide, by decide⟩, by decide⟩
  · refine ⟨fun x hx a ha => ?_, ⟨by dsimp only; omega, by dsimp only; omega⟩, h1⟩
    have := lay_fits (lay n t []).length n t [] (fun x hx => nomatch hx) (Nat.le_refl _) x hx a ha
    omega
end Go.Proofs.Ytkpjkglheegmgaa
