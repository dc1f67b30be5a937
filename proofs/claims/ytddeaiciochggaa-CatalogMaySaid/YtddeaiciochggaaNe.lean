/- Where a table's name stands in a catalog: plain mathematics. Conditions: none. -/
import Derived.Test.YtddeaiciochggaaNc
/- Which catalogs may be: the walk of Check. Conditions: tables that are read in memory. -/
namespace Go.Proofs.Ytddeaiciochggaa
open Go.RowKit Go.Sort Go.Maps
set_option linter.unusedSimpArgs false
set_option linter.unusedVariables false

set_option maxRecDepth 100000 in
set_option maxHeartbeats 400000 in
theorem cCheck_any6 (A : Option Addr) (n c : Nat) (ls : List Tb) (w : World) (hl : n = ls.length) (hr : RdS w A ls) (hn : ls.length ≤ 9223372036854775807) :
    Calls Try.prog 12 #[.agg #[.slice A n c]] w fun e w' => e = .returned (.int .i64 (if catB ls = true then 0 else 9)) ∧ Below w.heap.size w w' := by
  subst hl
  have h := mayBe_any6 A ls.length c ls (w.alloc (.cells #[.slice A ls.length c] 35)) rfl (hr.below (below1 _ _)) hn
  generalize catB ls = T at h ⊢
  have H := Lib.hid h
  clear hr h
  have HB1 := Lib.hid (below1 w (.cells #[.slice A ls.length c] 35))
  cases T
  all_goals
    go_enter Try.func12, Try.ntmps12
    go_wp2_with (go_at_call 34; (with_reducible refine H.out.mono ?_); rintro e w1 ⟨rfl, hb⟩; have HB := Lib.hid (thn HB1.out hb); clear hb)
    go_ret
    exact ⟨rfl, HB.out⟩
end Go.Proofs.Ytddeaiciochggaa
namespace Go.Proofs.Ytddeaiciochggaa
open Go.RowKit Go.Sort Go.Maps
set_option linter.unusedSimpArgs false
set_option linter.unusedVariables false

theorem takeWhile_len {α : Type} (p : α → Bool) : ∀ (l : List α) (i : Nat), i ≤ l.length → (∀ j (h : j < l.length), j < i → p l[j] = true) → (∀ h : i < l.length, p l[i] = false) → (l.takeWhile p).length = i
  | [], i, hi, _, _ => by simp at hi; simp [hi]
  | a :: l, i, hi, h1, h2 => by
    rcases Nat.eq_zero_or_pos i with rfl | h0
    · have := h2 (by simp)
      simp only [List.getElem_cons_zero] at this
      simp [List.takeWhile_cons, this]
    · have ha := h1 0 (by simp) h0
      simp only [List.getElem_cons_zero] at ha
      have ih := takeWhile_len p l (i - 1) (by simp at hi; omega) (fun j h hj => by
        have := h1 (j + 1) (by simp; omega) (by omega)
        simpa using this) (fun h => by
        have := h2 (by simp; omega)
        have e : i = i - 1 + 1 := by omega
        have e2 : (a :: l)[i]'(by simp; omega) = l[i - 1]'h := by
          have : (a :: l)[i - 1 + 1]'(by simp; omega) = l[i - 1]'h := List.getElem_cons_succ ..
          rw [← this]; congr 1
        rw [e2] at this
        exact this)
      simp [List.takeWhile_cons, ha, ih]; omega
/-- Tables by their names, rising. -/
def SrtT (ls : List Tb) : Prop := ls.Pairwise fun a b => lessB a.m b.m = true
def befT (s : ByteArray) (t : Tb) : Bool := lessB t.m s
/-- Where a table of that name stands, or would stand. -/
def posT (ls : List Tb) (s : ByteArray) : Nat := (ls.takeWhile (befT s)).length
def isT (ls : List Tb) (s : ByteArray) : Bool := match ls[posT ls s]? with
  | some t => decide (ordS t.m s = 0)
  | none => false
theorem lessB_trans {a b c : ByteArray} (h1 : lessB a b = true) (h2 : lessB b c = true) : lessB a c = true := less_trans h1 h2
theorem lessB_irrefl (a : ByteArray) : lessB a a = false := less_irrefl _
theorem ordS_neg_iff {a b : ByteArray} : decide (ordS a b < 0) = lessB a b := by
  unfold ordS lessB
  split
  · rename_i h; rw [h]; rfl
  · rename_i h
    have h' : Op.bytesLess a.toList b.toList = false := by simpa using h
    rw [h']
    split <;> rfl
theorem ordS_zero {a b : ByteArray} : ordS a b = 0 ↔ a = b := by
  unfold ordS
  constructor
  · intro h
    split at h
    · cases h
    · split at h
      · rename_i h2; exact ba_iff.1 h2
      · cases h
  · rintro rfl
    rw [if_neg (by rw [less_irrefl]; decide), if_pos rfl]
theorem srtT_of : ∀ {l : List Tb}, (∀ i (h : i + 1 < l.length), lessB (l[i]'(by omega)).m l[i + 1].m = true) → SrtT l
  | [], _ => List.Pairwise.nil
  | [a], _ => List.pairwise_singleton _ _
  | a :: b :: l, h => by
    have ih := srtT_of (l := b :: l) (fun i hi => by
      have := h (i + 1) (by simp at hi ⊢; omega)
      simpa using this)
    have h0 := h 0 (by simp)
    simp only [List.getElem_cons_zero, List.getElem_cons_succ] at h0
    refine List.pairwise_cons.2 ⟨fun x hx => ?_, ih⟩
    rcases List.mem_cons.1 hx with rfl | hx
    · exact h0
    · exact lessB_trans h0 ((List.pairwise_cons.1 ih).1 x hx)
theorem SrtT.get {l : List Tb} (h : SrtT l) {i j : Nat} (hij : i < j) (hj : j < l.length) : lessB (l[i]'(by omega)).m l[j].m = true := List.pairwise_iff_getElem.1 h i j (by omega) hj hij
theorem posT_of {l : List Tb} (h : SrtT l) {s : ByteArray} {i : Nat} (hi : i ≤ l.length) (h1 : ∀ h : 0 < i, befT s (l[i - 1]'(by omega)) = true) (h2 : ∀ h : i < l.length, befT s l[i] = false) : posT l s = i := by
  refine takeWhile_len _ l i hi (fun j hj hji => ?_) h2
  have h3 := h1 (by omega)
  by_cases e : j = i - 1
  · subst e; exact h3
  · exact lessB_trans (h.get (i := j) (j := i - 1) (by omega) (by omega)) h3
/-- What is so of a catalog that may be. -/
structure Cat (ls : List Tb) : Prop where
  few : ls.length ≤ 8
  srt : SrtT ls
  may : ∀ t ∈ ls, tblB t = true
  new : newB [] (names ls) = true
theorem cat_of {ls : List Tb} (h : catB ls = true) : Cat ls := by
  unfold catB at h
  simp only [Bool.and_eq_true, decide_eq_true_eq] at h
  obtain ⟨h1, h2, h3⟩ := h
  have h2' : ∀ j, j < ls.length → risAt ls j = true ∧ mayAt ls j = true := fun j hj => by
    have := List.all_eq_true.1 h2 j (by simpa using hj)
    simpa using this
  refine ⟨h1, srtT_of fun i hi => ?_, catB_all fun k hk => (h2' k hk).2, h3⟩
  have := (h2' (i + 1) hi).1
  rwa [risAt_succ hi] at this
theorem catB_of {ls : List Tb} (h : Cat ls) : catB ls = true := by
  unfold catB
  rw [decide_eq_true h.few, h.new, all_range, Bool.and_self, Bool.and_self]
  intro j hj
  rw [Bool.and_eq_true, mayAt_get hj]
  refine ⟨?_, h.may _ (List.getElem_mem hj)⟩
  cases j with
  | zero => rfl
  | succ i => rw [risAt_succ hj]; exact h.srt.get (by omega) hj
theorem isT_mem {ls : List Tb} (h : SrtT ls) {j : Nat} (hj : j < ls.length) : posT ls ls[j].m = j ∧ isT ls ls[j].m = true := by
  have e : posT ls ls[j].m = j := posT_of h (by omega) (fun h0 => h.get (i := j - 1) (j := j) (by omega) hj) (fun _ => lessB_irrefl _)
  refine ⟨e, ?_⟩
  unfold isT
  rw [e, List.getElem?_eq_getElem hj]
  exact decide_eq_true (ordS_zero.2 rfl)
theorem isT_get {ls : List Tb} {s : ByteArray} (h : isT ls s = true) : ∃ hp : posT ls s < ls.length, ls[posT ls s].m = s := by
  unfold isT at h
  split at h
  · rename_i t ht
    obtain ⟨hp, e⟩ := List.getElem?_eq_some_iff.1 ht
    exact ⟨hp, by rw [e]; exact ordS_zero.1 (of_decide_eq_true h)⟩
  · cases h
theorem posT_le (ls : List Tb) (s : ByteArray) : posT ls s ≤ ls.length := (List.takeWhile_prefix (befT s)).length_le
/-- What Find answers. -/
def findF (ls : List Tb) (s : ByteArray) : Int × Int := if catB ls = false then (0, 9) else if isT ls s = true then (posT ls s, 0) else (0, 93)
end Go.Proofs.Ytddeaiciochggaa
