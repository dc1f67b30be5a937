/- Versions and chains in plain words: which may be, what is seen, written, committed, undone, pruned. Conditions: none. -/
import Derived.WalkKit
namespace Go.Proofs.Ytclcidcjeoajaaa
set_option linter.unusedSimpArgs false
set_option linter.unusedVariables false

/-- A version. -/
structure Ver where
  t : Int
  x : Int
  g : Bool
  v : ByteArray
  h : v.size ≤ 140737488355328
theorem Ver.ext' {a b : Ver} (h1 : a.t = b.t) (h2 : a.x = b.x) (h3 : a.g = b.g) (h4 : a.v = b.v) : a = b := by
  cases a; cases b; cases h1; cases h2; cases h3; cases h4; rfl
def txB (x : Int) : Bool := decide (1 ≤ x) && decide (x ≤ 1099511627776)
def fitB (g : Bool) (s : ByteArray) : Bool := s.toList.isEmpty || (!g && decide ((s.size : Int) ≤ 4096))
def mayB (v : Ver) : Bool := decide (0 ≤ v.t) && decide (v.t ≤ 1099511627776) && txB v.x && fitB v.g v.v
def folB (v a : Ver) : Bool := decide (0 < v.t) && (decide (a.t = 0) || decide (v.t < a.t))
def opnB (x : Int) (v : Ver) : Bool := decide (v.t = 0) && decide (v.x = x)
def cmtB (n : Int) (v : Ver) : Bool := decide (0 < v.t) && decide (v.t ≤ n)
def seeB (n x : Int) (v : Ver) : Bool := opnB x v || cmtB n v
/-- The i-th version may be, and may follow the one ahead of it. -/
def At (l : List Ver) (i : Nat) : Prop := ∀ h : i < l.length, mayB l[i] = true ∧ (0 < i → folB l[i] (l[i - 1]'(by omega)) = true)
/-- The chain may be. -/
def Ok (l : List Ver) : Prop := l.length ≤ 64 ∧ ∀ i, At l i
def idx (p : Ver → Bool) (l : List Ver) : Int := if l.findIdx p < l.length then (l.findIdx p : Int) else -1
def fstB (x : Int) : List Ver → Bool
  | [] => false
  | v :: _ => opnB x v
def wout (x : Int) (l : List Ver) : List Ver := if fstB x l = true then l.drop 1 else l
def grwE (n : Int) (l : List Ver) : Int := match l with
  | [] => 0
  | v :: _ => if cmtB n v = true then (if l.length = 64 then 51 else 0) else 95
def prn (n : Int) (l : List Ver) : List Ver :=
  match l[l.findIdx (cmtB n)]? with
  | none => l
  | some v => if v.g = true then l.take (l.findIdx (cmtB n)) else l.take (l.findIdx (cmtB n) + 1)
/-- What Write's error is, of a chain that may be. -/
def wrE (l : List Ver) (n x : Int) (g : Bool) (s : ByteArray) : Int :=
  if txB x = false then 4 else if fitB g s = false then 5 else if fstB x l = true then 0 else grwE n l
def cmE (l : List Ver) (x t : Int) : Int :=
  if fstB x l = false then 71 else if t < 1 ∨ 1099511627776 < t ∨ (∃ h : 1 < l.length, t ≤ l[1].t) then 4 else 0
def cmt (t : Int) : List Ver → List Ver
  | [] => []
  | v :: r => ⟨t, v.x, v.g, v.v, v.h⟩ :: r

theorem Ok.take {l : List Ver} (h : Ok l) (k : Nat) : Ok (l.take k) := by
  refine ⟨by have := h.1; simp; omega, fun i hi => ?_⟩
  have hi' : i < l.length := by simp at hi; omega
  have := h.2 i hi'
  simpa using this
theorem Ok.drop1 {l : List Ver} (h : Ok l) : Ok (l.drop 1) := by
  refine ⟨by have := h.1; simp; omega, fun i hi => ?_⟩
  have hi' : i + 1 < l.length := by simp at hi; omega
  have h1 := h.2 (i + 1) hi'
  refine ⟨by simpa [Nat.add_comm] using h1.1, fun h0 => ?_⟩
  have h2 := h1.2 (by omega)
  simp only [List.getElem_drop]
  have e1 : 1 + i = i + 1 := by omega
  have e2 : 1 + (i - 1) = i + 1 - 1 := by omega
  simp only [e1, e2]
  exact h2
theorem Ok.wout {l : List Ver} (h : Ok l) (x : Int) : Ok (wout x l) := by
  unfold Ytclcidcjeoajaaa.wout
  split
  · exact h.drop1
  · exact h
/-- A chain with another version ahead. -/
theorem Ok.cons {l : List Ver} (h : Ok l) (v : Ver) (hl : l.length < 64) (hv : mayB v = true) (hf : ∀ a ∈ l.head?, folB a v = true) : Ok (v :: l) := by
  refine ⟨by simp; omega, fun i hi => ?_⟩
  match i with
  | 0 => exact ⟨hv, fun h0 => by omega⟩
  | j + 1 =>
    have hj : j < l.length := by simpa using hi
    have h1 := h.2 j hj
    refine ⟨h1.1, fun _ => ?_⟩
    match j with
    | 0 =>
      have h3 := hf l[0] (by cases l <;> simp_all)
      simpa using h3
    | k + 1 => simpa using h1.2 (by omega)
theorem Ok.pos {l : List Ver} (h : Ok l) {i : Nat} (h0 : 0 < i) (hi : i < l.length) : 0 < l[i].t := by
  have := (h.2 i hi).2 h0
  simp [folB] at this
  exact this.1
theorem Ok.may {l : List Ver} (h : Ok l) {i : Nat} (hi : i < l.length) : mayB l[i] = true := (h.2 i hi).1
theorem Ok.fol {l : List Ver} (h : Ok l) {i : Nat} (hi : i + 1 < l.length) : folB l[i + 1] l[i] = true := (h.2 (i + 1) hi).2 (by omega)

/-! What Prune leaves. -/
theorem prn_ok {l : List Ver} (h : Ok l) (n : Int) : Ok (prn n l) := by
  unfold prn
  split
  · exact h
  · split
    · exact h.take _
    · exact h.take _
theorem findIdx_take {p : Ver → Bool} {l : List Ver} {k : Nat} (h : k ≤ l.findIdx p) : (l.take k).findIdx p = (l.take k).length := by
  rw [List.findIdx_eq_length]
  intro x hx
  obtain ⟨j, hj, rfl⟩ := List.mem_take_iff_getElem.1 hx
  have := List.not_of_lt_findIdx (p := p) (xs := l) (i := j) (by omega)
  simpa using this
theorem prn_prn (l : List Ver) (n : Int) : prn n (prn n l) = prn n l := by
  have h1 : prn n l = prn n l := rfl
  unfold prn at h1
  by_cases hk : l.findIdx (cmtB n) < l.length
  · rw [List.getElem?_eq_getElem hk] at h1
    by_cases hg : l[l.findIdx (cmtB n)].g = true
    · simp only [hg, if_true] at h1
      have e : prn n l = l.take (l.findIdx (cmtB n)) := by rw [prn, List.getElem?_eq_getElem hk]; simp only [hg, if_true]
      rw [e, prn, findIdx_take (Nat.le_refl _), List.getElem?_eq_none (by simp)]
    · have e : prn n l = l.take (l.findIdx (cmtB n) + 1) := by rw [prn, List.getElem?_eq_getElem hk]; simp [hg]
      have h2 : (l.take (l.findIdx (cmtB n) + 1)).findIdx (cmtB n) = l.findIdx (cmtB n) := by
        rw [List.findIdx_eq (by simp; omega)]
        refine ⟨by simpa using List.findIdx_getElem (w := hk), fun j hj => ?_⟩
        have := List.not_of_lt_findIdx (p := cmtB n) (xs := l) (i := j) (by omega)
        simpa using this
      rw [e, prn, h2]
      have h3 : (l.take (l.findIdx (cmtB n) + 1))[l.findIdx (cmtB n)]? = some l[l.findIdx (cmtB n)] := by
        rw [List.getElem?_take_of_lt (by omega), List.getElem?_eq_getElem hk]
      rw [h3]
      simp [hg, List.take_take]
  · have e : prn n l = l := by rw [prn, List.getElem?_eq_none (by omega)]
    rw [e, e]
/-- What is seen: whether there is one, and its text. -/
def isB (p : Ver → Bool) (l : List Ver) : Bool := match l.find? p with
  | none => false
  | some v => !v.g
def txt (p : Ver → Bool) (l : List Ver) : ByteArray := match l.find? p with
  | none => ⟨#[]⟩
  | some v => v.v
def stp (p : Ver → Bool) (l : List Ver) : Int := match l.find? p with
  | none => 0
  | some v => v.t
theorem find_take {p : Ver → Bool} {l : List Ver} {k : Nat} (hk : l.findIdx p < k) : (l.take k).find? p = l.find? p := by
  induction l generalizing k with
  | nil => simp
  | cons a l ih =>
    match k with
    | 0 => omega
    | k + 1 =>
      rw [List.take_succ_cons, List.find?_cons, List.find?_cons]
      cases hp : p a
      · simp only []
        refine ih ?_
        rw [List.findIdx_cons, hp] at hk
        simpa using hk
      · rfl
theorem find_le {p q : Ver → Bool} {l : List Ver} (h : ∀ v, p v = true → q v = true) : l.findIdx q ≤ l.findIdx p := by
  induction l with
  | nil => simp
  | cons a l ih =>
    rw [List.findIdx_cons, List.findIdx_cons]
    cases hp : p a
    · cases hq : q a <;> simp <;> omega
    · rw [h a hp]; simp
theorem cmt_see {n m x : Int} (h : n ≤ m) (v : Ver) (hv : cmtB n v = true) : seeB m x v = true := by
  simp [cmtB, seeB] at *
  exact .inr ⟨hv.1, by omega⟩
theorem find_at {p : Ver → Bool} {l : List Ver} (h : l.findIdx p < l.length) : l.find? p = some l[l.findIdx p] := by
  induction l with
  | nil => simp at h
  | cons a l ih =>
    rw [List.find?_cons]
    cases hp : p a
    · have e : (a :: l).findIdx p = l.findIdx p + 1 := by rw [List.findIdx_cons, hp]; rfl
      simp only [e] at h ⊢
      rw [ih (by simpa using h)]
      simp
    · have e : (a :: l).findIdx p = 0 := by rw [List.findIdx_cons, hp]; rfl
      simp [e]
theorem see_prn {l : List Ver} {n m x : Int} (h : n ≤ m) : isB (seeB m x) (prn n l) = isB (seeB m x) l ∧ (isB (seeB m x) l = true → txt (seeB m x) (prn n l) = txt (seeB m x) l) := by
  have hle := find_le (p := cmtB n) (q := seeB m x) (l := l) (fun v hv => cmt_see h v hv)
  by_cases hk : l.findIdx (cmtB n) < l.length
  · by_cases hg : l[l.findIdx (cmtB n)].g = true
    · have e : prn n l = l.take (l.findIdx (cmtB n)) := by rw [prn, List.getElem?_eq_getElem hk]; simp only [hg, if_true]
      rw [e]
      by_cases hlt : l.findIdx (seeB m x) < l.findIdx (cmtB n)
      · unfold isB txt
        rw [find_take hlt]
        exact ⟨rfl, fun _ => rfl⟩
      · have e2 : l.findIdx (seeB m x) = l.findIdx (cmtB n) := by omega
        have h1 : l.find? (seeB m x) = some l[l.findIdx (cmtB n)] := by
          rw [find_at (by omega)]
          simp only [e2]
        have h2 : (l.take (l.findIdx (cmtB n))).find? (seeB m x) = none := by
          rw [List.find?_eq_none]
          intro v hv
          obtain ⟨j, hj, rfl⟩ := List.mem_take_iff_getElem.1 hv
          have := List.not_of_lt_findIdx (p := seeB m x) (xs := l) (i := j) (by omega)
          simpa using this
        unfold isB
        rw [h1, h2]
        simp [hg]
    · have e : prn n l = l.take (l.findIdx (cmtB n) + 1) := by rw [prn, List.getElem?_eq_getElem hk]; simp [hg]
      rw [e]
      unfold isB txt
      rw [find_take (by omega)]
      exact ⟨rfl, fun _ => rfl⟩
  · have e : prn n l = l := by rw [prn, List.getElem?_eq_none (by omega)]
    rw [e]
    exact ⟨rfl, fun _ => rfl⟩

/-! What Write makes, and what then is answered. -/
def new (x : Int) (g : Bool) (s : ByteArray) (h : s.size ≤ 140737488355328) : Ver := ⟨0, x, g, s, h⟩
theorem fst_cases {l : List Ver} {x : Int} (h : fstB x l = true) : ∃ v r, l = v :: r ∧ v.t = 0 ∧ v.x = x := by
  match l, h with
  | v :: r, h => simp [fstB, opnB] at h; exact ⟨v, r, rfl, h.1, h.2⟩
theorem wr_ok {l : List Ver} {n x : Int} {g : Bool} {s : ByteArray} {hs : s.size ≤ 140737488355328} (h : Ok l) (h0 : wrE l n x g s = 0) : Ok (new x g s hs :: wout x l) := by
  unfold wrE at h0
  split at h0
  · omega
  split at h0
  · omega
  rename_i ht hf
  have hm : mayB (new x g s hs) = true := by simp [mayB, new]; exact ⟨by simpa using ht, by simpa using hf⟩
  by_cases h1 : fstB x l = true
  · obtain ⟨v, r, rfl, hv⟩ := fst_cases h1
    have e : wout x (v :: r) = r := by simp [wout, h1]
    rw [e]
    have hr := h.drop1
    simp at hr
    refine hr.cons _ (by have := h.1; simp at this; omega) hm fun a ha => ?_
    match r, ha with
    | a' :: r', ha =>
      simp at ha
      subst ha
      have := h.pos (i := 1) (by omega) (by simp)
      simp [folB, new]
      simpa using this
  · have e : wout x l = l := by simp [wout, h1]
    rw [e]
    rw [if_neg h1] at h0
    match l, h0 with
    | [], _ => exact h.cons _ (by simp) hm fun a ha => by simp at ha
    | v :: r, h0 =>
      simp only [grwE] at h0
      · split at h0
        · rename_i hc
          split at h0
          · omega
          · refine h.cons _ (by have := h.1; simp at *; omega) hm fun a ha => ?_
            simp at ha
            subst ha
            simp [cmtB] at hc
            simp [folB, new]
            exact hc.1
        · omega
theorem second {l : List Ver} {n a b : Int} {s : ByteArray} {hs : s.size ≤ 140737488355328} {r : List Ver} (hab : a ≠ b) (hf : fitB false s = true) (hb : txB b = true) : wrE (new a false s hs :: r) n b false s = 95 := by
  simp [wrE, hb, hf, fstB, opnB, new, hab, grwE, cmtB]
theorem range_bad {l : List Ver} {n b : Int} {s : ByteArray} {g : Bool} (hb : txB b = false) : wrE l n b g s = 4 := by simp [wrE, hb]
theorem wrE_parts {l : List Ver} {n x : Int} {g : Bool} {s : ByteArray} (h0 : wrE l n x g s = 0) : txB x = true ∧ fitB g s = true ∧ (fstB x l = true ∨ grwE n l = 0) := by
  unfold wrE at h0
  split at h0
  · omega
  split at h0
  · omega
  rename_i h1 h2
  refine ⟨by simpa using h1, by simpa using h2, ?_⟩
  split at h0
  · rename_i h3
    exact .inl h3
  · exact .inr h0
theorem again {l : List Ver} {n a b : Int} {s : ByteArray} (h0 : wrE l n a false s = 0) (hb : txB b = true) (hz : ∀ v ∈ l.head?, v.t ≠ 0) : wrE (wout a l) n b false s = 0 := by
  obtain ⟨_, hf, h⟩ := wrE_parts h0
  have h1 : fstB a l = false := by
    cases l with
    | nil => rfl
    | cons v r => simp [fstB, opnB]; intro e; exact absurd e (hz v (by simp))
  have e : wout a l = l := by simp [wout, h1]
  rw [e]
  simp [h1] at h
  simp [wrE, hb, hf, h]
theorem com_ok {a t : Int} {s : ByteArray} {hs : s.size ≤ 140737488355328} {r : List Ver} (h : Ok (new a false s hs :: r)) (he : cmE (new a false s hs :: r) a t = 0) : Ok (cmt t (new a false s hs :: r)) ∧ 1 ≤ t := by
  unfold cmE at he
  split at he
  · omega
  split at he
  · omega
  rename_i hn
  have hn1 : ¬ t < 1 := fun e => hn (.inl e)
  have hn2 : ¬ 1099511627776 < t := fun e => hn (.inr (.inl e))
  have hn3 : ¬ ∃ h : 1 < (new a false s hs :: r).length, t ≤ (new a false s hs :: r)[1].t := fun e => hn (.inr (.inr e))
  have hm := h.may (i := 0) (by simp)
  have hr := h.drop1
  simp at hr
  refine ⟨hr.cons _ (by have := h.1; simp at this; omega) ?_ ?_, by omega⟩
  · simp [mayB, new] at hm ⊢
    exact ⟨⟨⟨by omega, by omega⟩, hm.1⟩, hm.2⟩
  · intro v hv
    cases r with
    | nil => simp at hv
    | cons v' r' =>
      simp at hv
      subst hv
      have hp := h.pos (i := 1) (by omega) (by simp)
      simp at hp
      simp [folB]
      refine ⟨hp, .inr ?_⟩
      have : ¬ t ≤ v'.t := fun e => hn3 ⟨by simp, by simpa using e⟩
      omega
theorem com_conf {a b t n : Int} {s : ByteArray} {hs : s.size ≤ 140737488355328} {r : List Ver} (ht : 1 ≤ t) (hn : n < t) (hb : txB b = true) (hf : fitB false s = true) : wrE (cmt t (new a false s hs :: r)) n b false s = 95 := by
  have e1 : ¬ t = 0 := by omega
  have e2 : ¬ t ≤ n := by omega
  simp [wrE, hb, hf, cmt, fstB, opnB, new, grwE, cmtB, e1, e2]
theorem undo_new {x : Int} {g : Bool} {s : ByteArray} {hs : s.size ≤ 140737488355328} {r : List Ver} : wout x (new x g s hs :: r) = r := by
  simp [wout, fstB, opnB, new]
theorem back_open {l : List Ver} {n x : Int} {g : Bool} {s : ByteArray} (h0 : wrE l n x g s = 0) (v : Ver) (r : List Ver) (e : l = v :: r) (hv : v.t = 0) : wout x l = l.drop 1 := by
  obtain ⟨_, _, h⟩ := wrE_parts h0
  subst e
  rcases h with h | h
  · simp [wout, h]
  · simp [grwE, cmtB, hv] at h
theorem back_done {l : List Ver} {x : Int} (hz : ∀ v ∈ l.head?, v.t ≠ 0) : wout x l = l := by
  have h1 : fstB x l = false := by
    cases l with
    | nil => rfl
    | cons v r => simp [fstB, opnB]; intro e; exact absurd e (hz v (by simp))
  simp [wout, h1]
end Go.Proofs.Ytclcidcjeoajaaa
