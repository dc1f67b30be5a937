/- A statement's print, and that two statements that may be have one print just if they are one: plain mathematics. Conditions: none. -/
import Derived.Test.YtnbgnofbeklmkaaGreatDoorGa
import Derived.Test.YtnbgnofbeklmkaaGreatDoorCc
namespace Go.Proofs.YtnbgnofbeklmkaaGreatDoor
open Go.RowKit
set_option linter.unusedSimpArgs false
set_option linter.unusedVariables false

/-- The words of prints. -/
def wCT : List UInt8 := [67, 82, 69, 65, 84, 69, 32, 84, 65, 66, 76, 69, 32]
def wCI : List UInt8 := [67, 82, 69, 65, 84, 69, 32, 73, 78, 68, 69, 88, 32]
def wDT : List UInt8 := [68, 82, 79, 80, 32, 84, 65, 66, 76, 69, 32]
def wII : List UInt8 := [73, 78, 83, 69, 82, 84, 32, 73, 78, 84, 79, 32]
def wUP : List UInt8 := [85, 80, 68, 65, 84, 69, 32]
def wDF : List UInt8 := [68, 69, 76, 69, 84, 69, 32, 70, 82, 79, 77, 32]
def wSE : List UInt8 := [83, 69, 76, 69, 67, 84, 32]
def wBE : List UInt8 := [66, 69, 71, 73, 78]
def wCO : List UInt8 := [67, 79, 77, 77, 73, 84]
def wRO : List UInt8 := [82, 79, 76, 76, 66, 65, 67, 75]
def wop : List UInt8 := [32, 40]
def wcl : List UInt8 := [41]
def wpk : List UInt8 := [80, 82, 73, 77, 65, 82, 89, 32, 75, 69, 89, 32, 40]
def wcc : List UInt8 := [41, 41]
def won : List UInt8 := [32, 79, 78, 32]
def wva : List UInt8 := [32, 86, 65, 76, 85, 69, 83, 32]
def wst : List UInt8 := [32, 83, 69, 84, 32]
def wwh : List UInt8 := [32, 87, 72, 69, 82, 69, 32]
def wfr : List UInt8 := [32, 70, 82, 79, 77, 32]
def wjo : List UInt8 := [32, 74, 79, 73, 78, 32]
def wgr : List UInt8 := [32, 71, 82, 79, 85, 80, 32, 66, 89, 32]
def wor : List UInt8 := [32, 79, 82, 68, 69, 82, 32, 66, 89, 32]
def wde : List UInt8 := [32, 68, 69, 83, 67]
def wli : List UInt8 := [32, 76, 73, 77, 73, 84, 32]
def wcm : List UInt8 := [44, 32]
def wbk : List UInt8 := [40]
def weq : List UInt8 := [32, 61, 32]
def wnn : List UInt8 := [32, 78, 79, 84, 32, 78, 85, 76, 76]
def wKI : List UInt8 := [73, 78, 84]
def wKB : List UInt8 := [66, 79, 79, 76]
def wKT : List UInt8 := [84, 69, 88, 84]
/-- A part of a statement, if it is there. -/
def partL {α : Type} (ws : List UInt8) (f : α → List UInt8) (l : List α) : List UInt8 := if l.isEmpty = true then [] else ws ++ joinL wcm (l.map f)
def kindL (k : Int) : List UInt8 := if k = 1 then wKI else if k = 2 then wKB else wKT
def colT (c : Cl) : List UInt8 := c.m.data.toList ++ (32 :: (kindL c.k ++ if c.nn = true then wnn else []))
def ordT (o : Od) : List UInt8 := dec o.n.toNat ++ if o.d = true then wde else []
def setT {n : Nat} (s : Sx n) : List UInt8 := s.m.data.toList ++ (weq ++ prX s.x)
def rowT {n : Nat} (r : List (Ar n)) : List UInt8 := partL wbk (prA n) r ++ wcl
def joinT (jn : ByteArray) : List UInt8 := if emp jn = true then [] else wjo ++ jn.data.toList
def limT (m : Int) : List UInt8 := if m = -1 then [] else wli ++ dec m.toNat
def colsT (l : List Cl) : List UInt8 := l.flatMap fun c => colT c ++ wcm
def queryT {n : Nat} (x : St n) : List UInt8 := partL wSE (prA n) x.items ++ (wfr ++ (x.tb.data.toList ++ (joinT x.jn ++ (partL won (prA n) x.on ++ (partL wwh (prA n) x.wh ++ (partL wgr (prA n) x.gr ++ (partL wor ordT x.ord ++ limT x.lim)))))))
/-- A statement's print. -/
def stL {n : Nat} (x : St n) : List UInt8 :=
  if x.kind = 1 then wCT ++ (x.tb.data.toList ++ (wop ++ (colsT x.cols ++ (wpk ++ (x.key.data.toList ++ wcc)))))
  else if x.kind = 2 then wCI ++ (x.ix.data.toList ++ (won ++ (x.tb.data.toList ++ (wop ++ (x.key.data.toList ++ wcl)))))
  else if x.kind = 3 then wDT ++ x.tb.data.toList
  else if x.kind = 4 then wII ++ (x.tb.data.toList ++ partL wva rowT x.rows)
  else if x.kind = 5 then wUP ++ (x.tb.data.toList ++ (partL wst setT x.sets ++ partL wwh (prA n) x.wh))
  else if x.kind = 6 then wDF ++ (x.tb.data.toList ++ partL wwh (prA n) x.wh)
  else if x.kind = 7 then queryT x
  else if x.kind = 8 then wBE else if x.kind = 9 then wCO else wRO

theorem part_on {α : Type} {ws : List UInt8} {f : α → List UInt8} {l : List α} (h : 0 < l.length) : partL ws f l = ws ++ joinL wcm (l.map f) := by
  unfold partL
  cases l with
  | nil => cases h
  | cons a l => rfl
theorem part_off {α : Type} {ws : List UInt8} {f : α → List UInt8} {l : List α} (h : l.length = 0) : partL ws f l = [] := by
  rw [List.eq_nil_of_length_eq_zero h]; rfl

/-- What may be at all, of expressions. -/
def okE {n : Nat} (y : Ar n) : Prop := okP n y = true
theorem firstE_zero : ∀ {l : List Int}, firstE l = 0 → ∀ e ∈ l, e = 0
  | [], _, e, he => by cases he
  | a :: l, h, e, he => by
    rw [firstE] at h
    by_cases h0 : a = 0
    · rw [if_pos h0] at h
      rcases List.mem_cons.1 he with rfl | he
      · exact h0
      · exact firstE_zero h e he
    · rw [if_neg h0] at h; exact absurd h h0
theorem chk_okP {n : Nat} {y : Ar n} (h : chk y = 0) : okP n y = true := by
  rw [okP_e]; exact (chk_ok h).1
/-- All that a statement that may be keeps. -/
structure StOk {n : Nat} (x : St n) : Prop where
  lo : 1 ≤ x.kind
  hi : x.kind ≤ 10
  fm : formedB x = true
  rows : ∀ r ∈ x.rows, ∀ y ∈ r, chk y = 0
  sets : ∀ s ∈ x.sets, chkX s.x = 0
  items : ∀ y ∈ x.items, chk y = 0
  on : ∀ y ∈ x.on, chk y = 0
  wh : ∀ y ∈ x.wh, chk y = 0
  gr : ∀ y ∈ x.gr, chk y = 0
theorem st_ok {n : Nat} {x : St n} (h : chkSt x = 0) : StOk x := by
  unfold chkSt at h
  by_cases h1 : x.kind < 1 ∨ 10 < x.kind
  · rw [if_pos h1] at h; cases h
  rw [if_neg h1] at h
  by_cases h2 : formedB x = false
  · rw [if_pos h2] at h; cases h
  rw [if_neg h2] at h
  by_cases h3 : firstE (errsX x) ≠ 0
  · rw [if_pos h3] at h; exact absurd h h3
  have h4 := firstE_zero (Decidable.not_not.1 h3)
  unfold errsX at h4
  refine ⟨by omega, by omega, by simpa using h2, fun r hr y hy => h4 _ ?_, fun s hs => h4 _ ?_, fun y hy => h4 _ ?_, fun y hy => h4 _ ?_, fun y hy => h4 _ ?_, fun y hy => h4 _ ?_⟩
  · exact List.mem_append_left _ (List.mem_flatMap.2 ⟨r, hr, List.mem_map.2 ⟨y, hy, rfl⟩⟩)
  all_goals refine List.mem_append_right _ ?_
  · exact List.mem_append_left _ (List.mem_map.2 ⟨s, hs, rfl⟩)
  all_goals refine List.mem_append_right _ ?_
  · exact List.mem_append_left _ (List.mem_map.2 ⟨y, hy, rfl⟩)
  all_goals refine List.mem_append_right _ ?_
  · exact List.mem_append_left _ (List.mem_map.2 ⟨y, hy, rfl⟩)
  all_goals refine List.mem_append_right _ ?_
  · exact List.mem_append_left _ (List.mem_map.2 ⟨y, hy, rfl⟩)
  · exact List.mem_append_right _ (List.mem_map.2 ⟨y, hy, rfl⟩)

theorem hdN_app {p : UInt8 → Bool} {c : UInt8} {t u : List UInt8} (h : p c = false) : hdN p (c :: t ++ u) = true := by simp [hdN, h]
theorem col_splits : Splits (fun c : Cl => colB c = true) (fun _ => True) (fun c => colT c ++ wcm) := by
  intro y y' hy hy' r s _ _ h
  obtain ⟨m, k, nn⟩ := y
  obtain ⟨m', k', nn'⟩ := y'
  unfold colB spB at hy hy'
  simp only [Bool.and_eq_true, decide_eq_true_eq] at hy hy'
  unfold colT at h
  simp only [List.append_assoc, List.cons_append] at h
  obtain ⟨e1, e2⟩ := span_split (name_all hy.1).1 (name_all hy'.1).1 (by rfl) (by rfl) h
  have e3 := (List.cons.inj e2).2
  have hk : k = 1 ∨ k = 2 ∨ k = 3 := by omega
  have hk' : k' = 1 ∨ k' = 2 ∨ k' = 3 := by omega
  have key : k = k' ∧ nn = nn' ∧ r = s := by
    rcases hk with rfl | rfl | rfl <;> rcases hk' with rfl | rfl | rfl <;> cases nn <;> cases nn' <;> simp [kindL, wKI, wKB, wKT, wnn, wcm] at e3 ⊢ <;> exact e3
  obtain ⟨rfl, rfl, rfl⟩ := key
  obtain rfl := ba_ext e1
  exact ⟨rfl, rfl⟩
theorem flat_splits {α : Type} {f : α → List UInt8} {ok : α → Prop} {p : UInt8 → Bool} (hf : Splits ok (fun _ => True) f) (hp : ∀ y, ok y → ∃ c t, f y = c :: t ∧ p c = true) :
    ∀ (l l' : List α), (∀ z ∈ l, ok z) → (∀ z ∈ l', ok z) → ∀ r s, hdN p r = true → hdN p s = true → l.flatMap f ++ r = l'.flatMap f ++ s → l = l' ∧ r = s
  | [], [], _, _, r, s, _, _, h => ⟨rfl, by simpa using h⟩
  | [], b :: l', _, hl', r, s, hr, _, h => by
    obtain ⟨c, t, e, hc⟩ := hp b (hl' b (by simp))
    rw [List.flatMap_nil, List.nil_append, List.flatMap_cons, e] at h
    rw [h] at hr
    simp [hdN, hc] at hr
  | a :: l, [], hl, _, r, s, _, hs, h => by
    obtain ⟨c, t, e, hc⟩ := hp a (hl a (by simp))
    rw [List.flatMap_nil, List.nil_append, List.flatMap_cons, e] at h
    rw [← h] at hs
    simp [hdN, hc] at hs
  | a :: l, b :: l', hl, hl', r, s, hr, hs, h => by
    rw [List.flatMap_cons, List.flatMap_cons, List.append_assoc, List.append_assoc] at h
    obtain ⟨e1, e2⟩ := hf a b (hl a (by simp)) (hl' b (by simp)) _ _ trivial trivial h
    obtain ⟨e3, e4⟩ := flat_splits hf hp l l' (fun z hz => hl z (List.mem_cons_of_mem _ hz)) (fun z hz => hl' z (List.mem_cons_of_mem _ hz)) r s hr hs e2
    exact ⟨by rw [e1, e3], e4⟩
theorem cols_split {l l' : List Cl} (h1 : l.all colB = true) (h2 : l'.all colB = true) {r s : List UInt8} (h : colsT l ++ (wpk ++ r) = colsT l' ++ (wpk ++ s)) : l = l' ∧ r = s := by
  obtain ⟨e1, e2⟩ := flat_splits (p := nmB) col_splits (fun c hc => by
    unfold colB at hc
    rw [Bool.and_eq_true] at hc
    obtain ⟨_, d, t, e, _, hn⟩ := name_all hc.1
    exact ⟨d, _, by unfold colT; rw [e]; rfl, hn⟩) l l' (fun z hz => List.all_eq_true.1 h1 z hz) (fun z hz => List.all_eq_true.1 h2 z hz) (wpk ++ r) (wpk ++ s) (by rfl) (by rfl) h
  exact ⟨e1, List.append_cancel_left e2⟩
theorem exprs_splits {n : Nat} {l l' : List (Ar n)} (h0 : 0 < l.length) (h0' : 0 < l'.length) (h1 : ∀ y ∈ l, chk y = 0) (h2 : ∀ y ∈ l', chk y = 0) {r s : List UInt8} (hr : dlB r = true) (hs : dlB s = true) (hc : hdN (· == 44) r = true) (hc' : hdN (· == 44) s = true)
    (h : joinL wcm (l.map (prA n)) ++ r = joinL wcm (l'.map (prA n)) ++ s) : l = l' ∧ r = s :=
  join_splits (c := 44) (t := [32]) (prA_splits n) (fun _ => rfl) l l' (List.ne_nil_of_length_pos h0) (List.ne_nil_of_length_pos h0') (fun z hz => chk_okP (h1 z hz)) (fun z hz => chk_okP (h2 z hz)) r s hr hs hc hc' h
theorem row_splits {n : Nat} : Splits (fun r : List (Ar n) => 0 < r.length ∧ ∀ y ∈ r, chk y = 0) (fun _ => True) rowT := by
  intro l l' hl hl' r s _ _ h
  unfold rowT at h
  rw [part_on hl.1, part_on hl'.1] at h
  simp only [List.append_assoc] at h
  have h1 := List.append_cancel_left h
  obtain ⟨e1, e2⟩ := exprs_splits hl.1 hl'.1 hl.2 hl'.2 (r := wcl ++ r) (s := wcl ++ s) (by rfl) (by rfl) (by rfl) (by rfl) h1
  exact ⟨e1, List.append_cancel_left e2⟩
theorem sx_ext {n : Nat} {a b : Sx n} (h1 : a.m = b.m) (h2 : a.x = b.x) : a = b := by
  obtain ⟨_, _⟩ := a; obtain ⟨_, _⟩ := b; simp only at h1 h2; subst h1 h2; rfl
theorem set_splits {n : Nat} : Splits (fun s : Sx n => nameB s.m = true ∧ chkX s.x = 0) (dlB · = true) setT := by
  intro a b ha hb r s hr hs h
  unfold setT at h
  simp only [List.append_assoc] at h
  obtain ⟨e1, e2⟩ := span_split (name_all ha.1).1 (name_all hb.1).1 (by rfl) (by rfl) h
  obtain ⟨e3, e4⟩ := prX_splits a.x b.x (chk_ok ha.2).1 (chk_ok hb.2).1 r s hr hs (List.append_cancel_left e2)
  exact ⟨sx_ext (ba_ext e1) e3, e4⟩
/-- What may stand behind an order. -/
def dlO (r : List UInt8) : Prop := r = [] ∨ (∃ u, r = 44 :: u) ∨ ∃ u, r = wli ++ u
theorem ord_splits : Splits (fun o : Od => ordB o = true) dlO ordT := by
  intro a b ha hb r s hr hs h
  obtain ⟨n, d⟩ := a
  obtain ⟨n', d'⟩ := b
  unfold ordB spB at ha hb
  simp only [Bool.and_eq_true, decide_eq_true_eq] at ha hb
  unfold ordT at h
  simp only [List.append_assoc] at h
  have hd : ∀ (q : Bool) (u : List UInt8), dlO u → hdN digB ((if q = true then wde else []) ++ u) = true := by
    intro q u hu
    cases q
    · rcases hu with rfl | ⟨v, rfl⟩ | ⟨v, rfl⟩ <;> rfl
    · rfl
  obtain ⟨e1, e2⟩ := span_split (dec_dig _) (dec_dig _) (hd d r hr) (hd d' s hs) h
  have e3 := dec_inj (by omega) (by omega) e1
  obtain rfl : n = n' := by omega
  have hne : ∀ (u v : List UInt8), dlO v → wde ++ u ≠ v := by
    intro u v hv e
    rcases hv with rfl | ⟨w, rfl⟩ | ⟨w, rfl⟩
    · simp [wde] at e
    · simp [wde] at e
    · exact pfree_ne (by decide) e
  cases d <;> cases d'
  · exact ⟨rfl, by simpa using e2⟩
  · exact absurd (by simpa using e2.symm) (hne _ _ hr)
  · exact absurd (by simpa using e2) (hne _ _ hs)
  · exact ⟨rfl, List.append_cancel_left e2⟩

/-- It is nothing, or begins with one of these words. -/
def Opens (ws : List (List UInt8)) (r : List UInt8) : Prop := r = [] ∨ ∃ w ∈ ws, ∃ u, r = w ++ u
theorem Opens.more {ws : List (List UInt8)} {w : List UInt8} {r : List UInt8} (h : Opens ws r) : Opens (w :: ws) r := by
  rcases h with h | ⟨v, hv, u, h⟩
  · exact .inl h
  · exact .inr ⟨v, List.mem_cons_of_mem _ hv, u, h⟩
theorem Opens.here {ws : List (List UInt8)} {w : List UInt8} (u : List UInt8) : Opens (w :: ws) (w ++ u) := .inr ⟨w, List.mem_cons_self, u, rfl⟩
theorem opens_part {α : Type} {ws : List (List UInt8)} {w : List UInt8} {f : α → List UInt8} {l : List α} {r : List UInt8} (h : Opens ws r) : Opens (w :: ws) (partL w f l ++ r) := by
  unfold partL
  split
  · exact h.more
  · rw [List.append_assoc]; exact Opens.here _
def wLi : List (List UInt8) := [wli]
def wOr : List (List UInt8) := [wor, wli]
def wGr : List (List UInt8) := [wgr, wor, wli]
def wWh : List (List UInt8) := [wwh, wgr, wor, wli]
def wOn : List (List UInt8) := [won, wwh, wgr, wor, wli]
def wJo : List (List UInt8) := [wjo, won, wwh, wgr, wor, wli]
/-- Such a text may stand behind an expression, a name. -/
theorem opens_dl {ws : List (List UInt8)} {r : List UInt8} (hw : (ws.all fun w => match w with | [] => false | c :: _ => c == 32) = true) (h : Opens ws r) : dlB r = true ∧ hdN (· == 44) r = true ∧ hdN nmB r = true ∧ hdN digB r = true := by
  rcases h with rfl | ⟨w, hm, u, rfl⟩
  · exact ⟨rfl, rfl, rfl, rfl⟩
  · have h1 := List.all_eq_true.1 hw w hm
    cases w with
    | nil => cases h1
    | cons c w =>
      have : c = 32 := by simpa using h1
      subst this
      exact ⟨rfl, rfl, rfl, rfl⟩
theorem opens_not {ws : List (List UInt8)} {w u r : List UInt8} (hw : ws.all (pfree w) = true) (hne : w ≠ []) (h : Opens ws r) : w ++ u ≠ r := by
  rcases h with rfl | ⟨v, hm, t, rfl⟩
  · simp [hne]
  · exact pfree_ne (List.all_eq_true.1 hw v hm)
/-- A part that is there or not, ahead of later ones. -/
theorem part_split {α : Type} {ws : List (List UInt8)} {w : List UInt8} {f : α → List UInt8} {l l' : List α} {r s : List UInt8} (hw : ws.all (pfree w) = true) (hne : w ≠ []) (hr : Opens ws r) (hs : Opens ws s)
    (hj : 0 < l.length → 0 < l'.length → joinL wcm (l.map f) ++ r = joinL wcm (l'.map f) ++ s → l = l' ∧ r = s) (h : partL w f l ++ r = partL w f l' ++ s) : l = l' ∧ r = s := by
  rcases Nat.eq_zero_or_pos l.length with e | e
  · rw [part_off e, List.nil_append] at h
    rcases Nat.eq_zero_or_pos l'.length with e' | e'
    · rw [part_off e', List.nil_append] at h
      exact ⟨by rw [List.eq_nil_of_length_eq_zero e, List.eq_nil_of_length_eq_zero e'], h⟩
    · rw [part_on e', List.append_assoc] at h
      exact absurd h.symm (opens_not hw hne hr)
  · rcases Nat.eq_zero_or_pos l'.length with e' | e'
    · rw [part_off e', part_on e, List.nil_append, List.append_assoc] at h
      exact absurd h (opens_not hw hne hs)
    · rw [part_on e, part_on e', List.append_assoc, List.append_assoc] at h
      exact hj e e' (List.append_cancel_left h)
theorem epart_split {n : Nat} {ws : List (List UInt8)} {w : List UInt8} {l l' : List (Ar n)} {r s : List UInt8} (hw : ws.all (pfree w) = true) (h32 : (ws.all fun w => match w with | [] => false | c :: _ => c == 32) = true) (hne : w ≠ []) (hr : Opens ws r) (hs : Opens ws s) (h1 : ∀ y ∈ l, chk y = 0) (h2 : ∀ y ∈ l', chk y = 0)
    (h : partL w (prA n) l ++ r = partL w (prA n) l' ++ s) : l = l' ∧ r = s :=
  part_split hw hne hr hs (fun e e' g => exprs_splits e e' h1 h2 (opens_dl h32 hr).1 (opens_dl h32 hs).1 (opens_dl h32 hr).2.1 (opens_dl h32 hs).2.1 g) h
theorem lim_opens (m : Int) : Opens wLi (limT m) := by
  unfold limT
  split
  · exact .inl rfl
  · exact Opens.here _
theorem lim_inj {m m' : Int} (h1 : -1 ≤ m ∧ m ≤ 2147483648) (h2 : -1 ≤ m' ∧ m' ≤ 2147483648) (h : limT m = limT m') : m = m' := by
  unfold limT at h
  split at h <;> split at h
  · omega
  · simp [wli] at h
  · simp [wli] at h
  · have := dec_inj (by omega) (by omega) (List.append_cancel_left h)
    omega
theorem opens_dlO {r : List UInt8} (h : Opens wLi r) : dlO r := by
  rcases h with h | ⟨w, hm, u, h⟩
  · exact .inl h
  · simp [wLi] at hm; subst hm; exact .inr (.inr ⟨u, h⟩)
theorem jn_split {ws : List (List UInt8)} {j j' : ByteArray} {r s : List UInt8} (hw : ws.all (pfree wjo) = true) (h32 : (ws.all fun w => match w with | [] => false | c :: _ => c == 32) = true) (hr : Opens ws r) (hs : Opens ws s) (h1 : (emp j || nameB j) = true) (h2 : (emp j' || nameB j') = true)
    (h : joinT j ++ r = joinT j' ++ s) : j = j' ∧ r = s := by
  unfold joinT at h
  cases e : emp j
  · rw [e] at h1 h
    cases e' : emp j'
    · rw [e'] at h2 h
      simp only [Bool.false_eq_true, if_false, List.append_assoc] at h
      obtain ⟨g1, g2⟩ := span_split (name_all (by simpa using h1)).1 (name_all (by simpa using h2)).1 (opens_dl h32 hr).2.2.1 (opens_dl h32 hs).2.2.1 (List.append_cancel_left h)
      exact ⟨ba_ext g1, g2⟩
    · rw [e'] at h
      simp only [Bool.false_eq_true, if_false, if_true, List.nil_append, List.append_assoc] at h
      exact absurd h (opens_not hw (by decide) hs)
  · rw [e] at h
    cases e' : emp j'
    · rw [e'] at h
      simp only [Bool.false_eq_true, if_false, if_true, List.nil_append, List.append_assoc] at h
      exact absurd h.symm (opens_not hw (by decide) hr)
    · rw [e'] at h
      exact ⟨by rw [ba_emp e, ba_emp e'], by simpa using h⟩

/-- The first words of each kind's print. -/
def headT (k : Int) : List UInt8 := if k = 1 then wCT else if k = 2 then wCI else if k = 3 then wDT else if k = 4 then wII else if k = 5 then wUP else if k = 6 then wDF else if k = 7 then wSE else if k = 8 then wBE else if k = 9 then wCO else wRO
theorem heads_free : ∀ a, a < 11 → ∀ b, b < 11 → 1 ≤ a → 1 ≤ b → a ≠ b → pfree (headT (a : Nat)) (headT (b : Nat)) = true := by decide

theorem items_pos {n : Nat} {x : St n} (h : StOk x) (hk : x.kind = 7) : 0 < x.items.length := by
  have h1 := h.fm
  obtain ⟨k, tb, cols, key, ix, rows, sets, items, jn, on, wh, gr, ord, lim⟩ := x
  dsimp only at hk h1 ⊢
  subst hk
  simp [formedB, namedB, countedB, onN, hasNm, gL, gH, gTab, spB] at h1
  omega
theorem st_head {n : Nat} {x : St n} (h : StOk x) : ∃ u, stL x = headT x.kind ++ u := by
  have h1 := h.lo
  have h2 := h.hi
  have hk : x.kind = 1 ∨ x.kind = 2 ∨ x.kind = 3 ∨ x.kind = 4 ∨ x.kind = 5 ∨ x.kind = 6 ∨ x.kind = 7 ∨ x.kind = 8 ∨ x.kind = 9 ∨ x.kind = 10 := by omega
  rcases hk with hk | hk | hk | hk | hk | hk | hk | hk | hk | hk
  · exact ⟨_, by simp [stL, headT, hk]; rfl⟩
  · exact ⟨_, by simp [stL, headT, hk]; rfl⟩
  · exact ⟨_, by simp [stL, headT, hk]; rfl⟩
  · exact ⟨_, by simp [stL, headT, hk]; rfl⟩
  · exact ⟨_, by simp [stL, headT, hk]; rfl⟩
  · exact ⟨_, by simp [stL, headT, hk]; rfl⟩
  · have := items_pos h hk
    have e : stL x = queryT x := by simp [stL, hk]
    have e2 : headT x.kind = wSE := by simp [headT, hk]
    rw [e, e2]
    unfold queryT
    rw [part_on this, List.append_assoc]
    exact ⟨_, rfl⟩
  · exact ⟨[], by simp [stL, headT, hk]⟩
  · exact ⟨[], by simp [stL, headT, hk]⟩
  · exact ⟨[], by simp [stL, headT, hk]⟩
theorem kind_of {n m : Nat} {x : St n} {y : St m} (hx : StOk x) (hy : StOk y) (h : stL x = stL y) : x.kind = y.kind := by
  obtain ⟨u, e⟩ := st_head hx
  obtain ⟨v, e'⟩ := st_head hy
  rw [e, e'] at h
  have a1 := hx.lo; have a2 := hx.hi; have b1 := hy.lo; have b2 := hy.hi
  rcases Decidable.em (x.kind = y.kind) with h1 | h1
  · exact h1
  · have hf := heads_free x.kind.toNat (by omega) y.kind.toNat (by omega) (by omega) (by omega) (by omega)
    rw [Int.toNat_of_nonneg (by omega), Int.toNat_of_nonneg (by omega)] at hf
    exact absurd h (pfree_ne hf)
theorem or_emp {s : ByteArray} (h : s.toList.isEmpty = true) : (emp s || nameB s) = true := by unfold emp; rw [h]; rfl
theorem len0 {α : Type} {l : List α} (h : l = []) : l.length = 0 := by rw [h]; rfl

theorem ba_nil {s : ByteArray} (h : s.toList = []) : s = ⟨#[]⟩ := by
  rw [ByteArray.toList_eq] at h
  exact ba_ext (by rw [h])
theorem jn_or {s : ByteArray} (h : s.toList = [] ∨ nameB s = true) : (emp s || nameB s) = true := by
  unfold emp
  rcases h with h | h
  · rw [h]; rfl
  · rw [h]; simp

set_option maxHeartbeats 1000000 in
theorem inj_1 {n : Nat} {x y : St n} (hx : StOk x) (hy : StOk y) (kx : x.kind = 1) (ky : y.kind = 1) (h : stL x = stL y) : x = y := by
  have fx := hx.fm
  have fy := hy.fm
  obtain ⟨-, -, -, xr, xs, xi, xo, xw, xg⟩ := hx
  obtain ⟨-, -, -, yr, ys, yi, yo, yw, yg⟩ := hy
  obtain ⟨k, tb, cols, key, ix, rows, sets, items, jn, on, wh, gr, ord, lim⟩ := x
  obtain ⟨k', tb', cols', key', ix', rows', sets', items', jn', on', wh', gr', ord', lim'⟩ := y
  dsimp only at kx ky fx fy xr xs xi xo xw xg yr ys yi yo yw yg
  subst kx ky
  simp [formedB, namedB, countedB, onN, hasNm, gL, gH, gTab, spB] at fx fy
  have z_ix0 : ix = ⟨#[]⟩ := ba_nil (by grind)
  have z_jn0 : jn = ⟨#[]⟩ := ba_nil (by grind)
  have z_rows0 : rows = [] := List.eq_nil_of_length_eq_zero (by grind)
  have z_sets0 : sets = [] := List.eq_nil_of_length_eq_zero (by grind)
  have z_items0 : items = [] := List.eq_nil_of_length_eq_zero (by grind)
  have z_on0 : on = [] := List.eq_nil_of_length_eq_zero (by grind)
  have z_wh0 : wh = [] := List.eq_nil_of_length_eq_zero (by grind)
  have z_gr0 : gr = [] := List.eq_nil_of_length_eq_zero (by grind)
  have z_ord0 : ord = [] := List.eq_nil_of_length_eq_zero (by grind)
  have z_lim0 : lim = 0 := by grind
  have n_tb0 : nameB tb = true := by grind
  have n_key0 : nameB key = true := by grind
  have z_ix1 : ix' = ⟨#[]⟩ := ba_nil (by grind)
  have z_jn1 : jn' = ⟨#[]⟩ := ba_nil (by grind)
  have z_rows1 : rows' = [] := List.eq_nil_of_length_eq_zero (by grind)
  have z_sets1 : sets' = [] := List.eq_nil_of_length_eq_zero (by grind)
  have z_items1 : items' = [] := List.eq_nil_of_length_eq_zero (by grind)
  have z_on1 : on' = [] := List.eq_nil_of_length_eq_zero (by grind)
  have z_wh1 : wh' = [] := List.eq_nil_of_length_eq_zero (by grind)
  have z_gr1 : gr' = [] := List.eq_nil_of_length_eq_zero (by grind)
  have z_ord1 : ord' = [] := List.eq_nil_of_length_eq_zero (by grind)
  have z_lim1 : lim' = 0 := by grind
  have n_tb1 : nameB tb' = true := by grind
  have n_key1 : nameB key' = true := by grind
  subst z_ix0 z_ix1
  subst z_jn0 z_jn1
  subst z_rows0 z_rows1
  subst z_sets0 z_sets1
  subst z_items0 z_items1
  subst z_on0 z_on1
  subst z_wh0 z_wh1
  subst z_gr0 z_gr1
  subst z_ord0 z_ord1
  subst z_lim0 z_lim1
  have cx : cols.all colB = true := by simp only [List.all_eq_true]; grind
  have cy : cols'.all colB = true := by simp only [List.all_eq_true]; grind
  clear fx fy
  simp only [stL, if_true] at h
  obtain ⟨e1, e2⟩ := span_split (name_all n_tb0).1 (name_all n_tb1).1 (by rfl) (by rfl) (List.append_cancel_left h)
  obtain ⟨e3, e4⟩ := cols_split cx cy (List.append_cancel_left e2)
  obtain ⟨e5, e6⟩ := span_split (name_all n_key0).1 (name_all n_key1).1 (by rfl) (by rfl) e4
  obtain rfl := ba_ext e1
  obtain rfl := ba_ext e5
  subst e3
  rfl

set_option maxHeartbeats 1000000 in
theorem inj_2 {n : Nat} {x y : St n} (hx : StOk x) (hy : StOk y) (kx : x.kind = 2) (ky : y.kind = 2) (h : stL x = stL y) : x = y := by
  have fx := hx.fm
  have fy := hy.fm
  obtain ⟨-, -, -, xr, xs, xi, xo, xw, xg⟩ := hx
  obtain ⟨-, -, -, yr, ys, yi, yo, yw, yg⟩ := hy
  obtain ⟨k, tb, cols, key, ix, rows, sets, items, jn, on, wh, gr, ord, lim⟩ := x
  obtain ⟨k', tb', cols', key', ix', rows', sets', items', jn', on', wh', gr', ord', lim'⟩ := y
  dsimp only at kx ky fx fy xr xs xi xo xw xg yr ys yi yo yw yg
  subst kx ky
  simp [formedB, namedB, countedB, onN, hasNm, gL, gH, gTab, spB] at fx fy
  have z_jn0 : jn = ⟨#[]⟩ := ba_nil (by grind)
  have z_cols0 : cols = [] := List.eq_nil_of_length_eq_zero (by grind)
  have z_rows0 : rows = [] := List.eq_nil_of_length_eq_zero (by grind)
  have z_sets0 : sets = [] := List.eq_nil_of_length_eq_zero (by grind)
  have z_items0 : items = [] := List.eq_nil_of_length_eq_zero (by grind)
  have z_on0 : on = [] := List.eq_nil_of_length_eq_zero (by grind)
  have z_wh0 : wh = [] := List.eq_nil_of_length_eq_zero (by grind)
  have z_gr0 : gr = [] := List.eq_nil_of_length_eq_zero (by grind)
  have z_ord0 : ord = [] := List.eq_nil_of_length_eq_zero (by grind)
  have z_lim0 : lim = 0 := by grind
  have n_tb0 : nameB tb = true := by grind
  have n_key0 : nameB key = true := by grind
  have n_ix0 : nameB ix = true := by grind
  have z_jn1 : jn' = ⟨#[]⟩ := ba_nil (by grind)
  have z_cols1 : cols' = [] := List.eq_nil_of_length_eq_zero (by grind)
  have z_rows1 : rows' = [] := List.eq_nil_of_length_eq_zero (by grind)
  have z_sets1 : sets' = [] := List.eq_nil_of_length_eq_zero (by grind)
  have z_items1 : items' = [] := List.eq_nil_of_length_eq_zero (by grind)
  have z_on1 : on' = [] := List.eq_nil_of_length_eq_zero (by grind)
  have z_wh1 : wh' = [] := List.eq_nil_of_length_eq_zero (by grind)
  have z_gr1 : gr' = [] := List.eq_nil_of_length_eq_zero (by grind)
  have z_ord1 : ord' = [] := List.eq_nil_of_length_eq_zero (by grind)
  have z_lim1 : lim' = 0 := by grind
  have n_tb1 : nameB tb' = true := by grind
  have n_key1 : nameB key' = true := by grind
  have n_ix1 : nameB ix' = true := by grind
  subst z_jn0 z_jn1
  subst z_cols0 z_cols1
  subst z_rows0 z_rows1
  subst z_sets0 z_sets1
  subst z_items0 z_items1
  subst z_on0 z_on1
  subst z_wh0 z_wh1
  subst z_gr0 z_gr1
  subst z_ord0 z_ord1
  subst z_lim0 z_lim1
  clear fx fy
  simp [stL] at h
  obtain ⟨e1, e2⟩ := span_split (name_all n_ix0).1 (name_all n_ix1).1 (by rfl) (by rfl) h
  obtain ⟨e3, e4⟩ := span_split (name_all n_tb0).1 (name_all n_tb1).1 (by rfl) (by rfl) (List.append_cancel_left e2)
  obtain ⟨e5, e6⟩ := span_split (name_all n_key0).1 (name_all n_key1).1 (by rfl) (by rfl) (List.append_cancel_left e4)
  obtain rfl := ba_ext e1
  obtain rfl := ba_ext e3
  obtain rfl := ba_ext e5
  rfl

set_option maxHeartbeats 1000000 in
theorem inj_3 {n : Nat} {x y : St n} (hx : StOk x) (hy : StOk y) (kx : x.kind = 3) (ky : y.kind = 3) (h : stL x = stL y) : x = y := by
  have fx := hx.fm
  have fy := hy.fm
  obtain ⟨-, -, -, xr, xs, xi, xo, xw, xg⟩ := hx
  obtain ⟨-, -, -, yr, ys, yi, yo, yw, yg⟩ := hy
  obtain ⟨k, tb, cols, key, ix, rows, sets, items, jn, on, wh, gr, ord, lim⟩ := x
  obtain ⟨k', tb', cols', key', ix', rows', sets', items', jn', on', wh', gr', ord', lim'⟩ := y
  dsimp only at kx ky fx fy xr xs xi xo xw xg yr ys yi yo yw yg
  subst kx ky
  simp [formedB, namedB, countedB, onN, hasNm, gL, gH, gTab, spB] at fx fy
  have z_key0 : key = ⟨#[]⟩ := ba_nil (by grind)
  have z_ix0 : ix = ⟨#[]⟩ := ba_nil (by grind)
  have z_jn0 : jn = ⟨#[]⟩ := ba_nil (by grind)
  have z_cols0 : cols = [] := List.eq_nil_of_length_eq_zero (by grind)
  have z_rows0 : rows = [] := List.eq_nil_of_length_eq_zero (by grind)
  have z_sets0 : sets = [] := List.eq_nil_of_length_eq_zero (by grind)
  have z_items0 : items = [] := List.eq_nil_of_length_eq_zero (by grind)
  have z_on0 : on = [] := List.eq_nil_of_length_eq_zero (by grind)
  have z_wh0 : wh = [] := List.eq_nil_of_length_eq_zero (by grind)
  have z_gr0 : gr = [] := List.eq_nil_of_length_eq_zero (by grind)
  have z_ord0 : ord = [] := List.eq_nil_of_length_eq_zero (by grind)
  have z_lim0 : lim = 0 := by grind
  have n_tb0 : nameB tb = true := by grind
  have z_key1 : key' = ⟨#[]⟩ := ba_nil (by grind)
  have z_ix1 : ix' = ⟨#[]⟩ := ba_nil (by grind)
  have z_jn1 : jn' = ⟨#[]⟩ := ba_nil (by grind)
  have z_cols1 : cols' = [] := List.eq_nil_of_length_eq_zero (by grind)
  have z_rows1 : rows' = [] := List.eq_nil_of_length_eq_zero (by grind)
  have z_sets1 : sets' = [] := List.eq_nil_of_length_eq_zero (by grind)
  have z_items1 : items' = [] := List.eq_nil_of_length_eq_zero (by grind)
  have z_on1 : on' = [] := List.eq_nil_of_length_eq_zero (by grind)
  have z_wh1 : wh' = [] := List.eq_nil_of_length_eq_zero (by grind)
  have z_gr1 : gr' = [] := List.eq_nil_of_length_eq_zero (by grind)
  have z_ord1 : ord' = [] := List.eq_nil_of_length_eq_zero (by grind)
  have z_lim1 : lim' = 0 := by grind
  have n_tb1 : nameB tb' = true := by grind
  subst z_key0 z_key1
  subst z_ix0 z_ix1
  subst z_jn0 z_jn1
  subst z_cols0 z_cols1
  subst z_rows0 z_rows1
  subst z_sets0 z_sets1
  subst z_items0 z_items1
  subst z_on0 z_on1
  subst z_wh0 z_wh1
  subst z_gr0 z_gr1
  subst z_ord0 z_ord1
  subst z_lim0 z_lim1
  clear fx fy
  have h2 : wDT ++ tb.data.toList = wDT ++ tb'.data.toList := by simpa [stL] using h
  obtain rfl := ba_ext (List.append_cancel_left h2)
  rfl

set_option maxHeartbeats 1000000 in
theorem inj_4 {n : Nat} {x y : St n} (hx : StOk x) (hy : StOk y) (kx : x.kind = 4) (ky : y.kind = 4) (h : stL x = stL y) : x = y := by
  have fx := hx.fm
  have fy := hy.fm
  obtain ⟨-, -, -, xr, xs, xi, xo, xw, xg⟩ := hx
  obtain ⟨-, -, -, yr, ys, yi, yo, yw, yg⟩ := hy
  obtain ⟨k, tb, cols, key, ix, rows, sets, items, jn, on, wh, gr, ord, lim⟩ := x
  obtain ⟨k', tb', cols', key', ix', rows', sets', items', jn', on', wh', gr', ord', lim'⟩ := y
  dsimp only at kx ky fx fy xr xs xi xo xw xg yr ys yi yo yw yg
  subst kx ky
  simp [formedB, namedB, countedB, onN, hasNm, gL, gH, gTab, spB] at fx fy
  have z_key0 : key = ⟨#[]⟩ := ba_nil (by grind)
  have z_ix0 : ix = ⟨#[]⟩ := ba_nil (by grind)
  have z_jn0 : jn = ⟨#[]⟩ := ba_nil (by grind)
  have z_cols0 : cols = [] := List.eq_nil_of_length_eq_zero (by grind)
  have z_sets0 : sets = [] := List.eq_nil_of_length_eq_zero (by grind)
  have z_items0 : items = [] := List.eq_nil_of_length_eq_zero (by grind)
  have z_on0 : on = [] := List.eq_nil_of_length_eq_zero (by grind)
  have z_wh0 : wh = [] := List.eq_nil_of_length_eq_zero (by grind)
  have z_gr0 : gr = [] := List.eq_nil_of_length_eq_zero (by grind)
  have z_ord0 : ord = [] := List.eq_nil_of_length_eq_zero (by grind)
  have z_lim0 : lim = 0 := by grind
  have n_tb0 : nameB tb = true := by grind
  have z_key1 : key' = ⟨#[]⟩ := ba_nil (by grind)
  have z_ix1 : ix' = ⟨#[]⟩ := ba_nil (by grind)
  have z_jn1 : jn' = ⟨#[]⟩ := ba_nil (by grind)
  have z_cols1 : cols' = [] := List.eq_nil_of_length_eq_zero (by grind)
  have z_sets1 : sets' = [] := List.eq_nil_of_length_eq_zero (by grind)
  have z_items1 : items' = [] := List.eq_nil_of_length_eq_zero (by grind)
  have z_on1 : on' = [] := List.eq_nil_of_length_eq_zero (by grind)
  have z_wh1 : wh' = [] := List.eq_nil_of_length_eq_zero (by grind)
  have z_gr1 : gr' = [] := List.eq_nil_of_length_eq_zero (by grind)
  have z_ord1 : ord' = [] := List.eq_nil_of_length_eq_zero (by grind)
  have z_lim1 : lim' = 0 := by grind
  have n_tb1 : nameB tb' = true := by grind
  subst z_key0 z_key1
  subst z_ix0 z_ix1
  subst z_jn0 z_jn1
  subst z_cols0 z_cols1
  subst z_sets0 z_sets1
  subst z_items0 z_items1
  subst z_on0 z_on1
  subst z_wh0 z_wh1
  subst z_gr0 z_gr1
  subst z_ord0 z_ord1
  subst z_lim0 z_lim1
  have lx : 0 < rows.length := by grind
  have ly : 0 < rows'.length := by grind
  have rx : ∀ r ∈ rows, 0 < r.length ∧ ∀ y ∈ r, chk y = 0 := fun r hr => ⟨by have := fx.1.1.2 r hr; simp [rowB, spB] at this; omega, xr r hr⟩
  have ry : ∀ r ∈ rows', 0 < r.length ∧ ∀ y ∈ r, chk y = 0 := fun r hr => ⟨by have := fy.1.1.2 r hr; simp [rowB, spB] at this; omega, yr r hr⟩
  clear fx fy
  have h2 : wII ++ (tb.data.toList ++ partL wva rowT rows) = wII ++ (tb'.data.toList ++ partL wva rowT rows') := by simpa [stL] using h
  rw [part_on lx, part_on ly] at h2
  obtain ⟨e1, e2⟩ := span_split (name_all n_tb0).1 (name_all n_tb1).1 (by rfl) (by rfl) (List.append_cancel_left h2)
  have e3 := List.append_cancel_left e2
  rw [← List.append_nil (joinL wcm (rows.map rowT)), ← List.append_nil (joinL wcm (rows'.map rowT))] at e3
  obtain ⟨e4, _⟩ := join_splits (c := 44) (t := [32]) row_splits (fun _ => trivial) rows rows' (List.ne_nil_of_length_pos lx) (List.ne_nil_of_length_pos ly) rx ry [] [] trivial trivial rfl rfl e3
  obtain rfl := ba_ext e1
  subst e4
  rfl

set_option maxHeartbeats 1000000 in
theorem inj_5 {n : Nat} {x y : St n} (hx : StOk x) (hy : StOk y) (kx : x.kind = 5) (ky : y.kind = 5) (h : stL x = stL y) : x = y := by
  have fx := hx.fm
  have fy := hy.fm
  obtain ⟨-, -, -, xr, xs, xi, xo, xw, xg⟩ := hx
  obtain ⟨-, -, -, yr, ys, yi, yo, yw, yg⟩ := hy
  obtain ⟨k, tb, cols, key, ix, rows, sets, items, jn, on, wh, gr, ord, lim⟩ := x
  obtain ⟨k', tb', cols', key', ix', rows', sets', items', jn', on', wh', gr', ord', lim'⟩ := y
  dsimp only at kx ky fx fy xr xs xi xo xw xg yr ys yi yo yw yg
  subst kx ky
  simp [formedB, namedB, countedB, onN, hasNm, gL, gH, gTab, spB] at fx fy
  have z_key0 : key = ⟨#[]⟩ := ba_nil (by grind)
  have z_ix0 : ix = ⟨#[]⟩ := ba_nil (by grind)
  have z_jn0 : jn = ⟨#[]⟩ := ba_nil (by grind)
  have z_cols0 : cols = [] := List.eq_nil_of_length_eq_zero (by grind)
  have z_rows0 : rows = [] := List.eq_nil_of_length_eq_zero (by grind)
  have z_items0 : items = [] := List.eq_nil_of_length_eq_zero (by grind)
  have z_on0 : on = [] := List.eq_nil_of_length_eq_zero (by grind)
  have z_gr0 : gr = [] := List.eq_nil_of_length_eq_zero (by grind)
  have z_ord0 : ord = [] := List.eq_nil_of_length_eq_zero (by grind)
  have z_lim0 : lim = 0 := by grind
  have n_tb0 : nameB tb = true := by grind
  have z_key1 : key' = ⟨#[]⟩ := ba_nil (by grind)
  have z_ix1 : ix' = ⟨#[]⟩ := ba_nil (by grind)
  have z_jn1 : jn' = ⟨#[]⟩ := ba_nil (by grind)
  have z_cols1 : cols' = [] := List.eq_nil_of_length_eq_zero (by grind)
  have z_rows1 : rows' = [] := List.eq_nil_of_length_eq_zero (by grind)
  have z_items1 : items' = [] := List.eq_nil_of_length_eq_zero (by grind)
  have z_on1 : on' = [] := List.eq_nil_of_length_eq_zero (by grind)
  have z_gr1 : gr' = [] := List.eq_nil_of_length_eq_zero (by grind)
  have z_ord1 : ord' = [] := List.eq_nil_of_length_eq_zero (by grind)
  have z_lim1 : lim' = 0 := by grind
  have n_tb1 : nameB tb' = true := by grind
  subst z_key0 z_key1
  subst z_ix0 z_ix1
  subst z_jn0 z_jn1
  subst z_cols0 z_cols1
  subst z_rows0 z_rows1
  subst z_items0 z_items1
  subst z_on0 z_on1
  subst z_gr0 z_gr1
  subst z_ord0 z_ord1
  subst z_lim0 z_lim1
  have lx : 0 < sets.length := by grind
  have ly : 0 < sets'.length := by grind
  have rx : ∀ s ∈ sets, nameB s.m = true ∧ chkX s.x = 0 := fun s hs => ⟨by have := fx.1.2 s hs; exact this, xs s hs⟩
  have ry : ∀ s ∈ sets', nameB s.m = true ∧ chkX s.x = 0 := fun s hs => ⟨by have := fy.1.2 s hs; exact this, ys s hs⟩
  clear fx fy
  have h2 : wUP ++ (tb.data.toList ++ (partL wst setT sets ++ partL wwh (prA n) wh)) = wUP ++ (tb'.data.toList ++ (partL wst setT sets' ++ partL wwh (prA n) wh')) := by simpa [stL] using h
  rw [part_on lx, part_on ly] at h2
  simp only [List.append_assoc] at h2
  obtain ⟨e1, e2⟩ := span_split (name_all n_tb0).1 (name_all n_tb1).1 (by rfl) (by rfl) (List.append_cancel_left h2)
  have e3 := List.append_cancel_left e2
  have ox : Opens [wwh] (partL wwh (prA n) wh ++ []) := opens_part (ws := []) (.inl rfl)
  have oy : Opens [wwh] (partL wwh (prA n) wh' ++ []) := opens_part (ws := []) (.inl rfl)
  rw [List.append_nil] at ox oy
  obtain ⟨e4, e5⟩ := join_splits (c := 44) (t := [32]) set_splits (fun _ => rfl) sets sets' (List.ne_nil_of_length_pos lx) (List.ne_nil_of_length_pos ly) rx ry _ _ (opens_dl (by decide) ox).1 (opens_dl (by decide) oy).1 (opens_dl (by decide) ox).2.1 (opens_dl (by decide) oy).2.1 e3
  rw [← List.append_nil (partL wwh (prA n) wh), ← List.append_nil (partL wwh (prA n) wh')] at e5
  obtain ⟨e6, _⟩ := epart_split (ws := []) (by rfl) (by rfl) (by decide) (.inl rfl) (.inl rfl) xw yw e5
  obtain rfl := ba_ext e1
  subst e4 e6
  rfl

set_option maxHeartbeats 1000000 in
theorem inj_6 {n : Nat} {x y : St n} (hx : StOk x) (hy : StOk y) (kx : x.kind = 6) (ky : y.kind = 6) (h : stL x = stL y) : x = y := by
  have fx := hx.fm
  have fy := hy.fm
  obtain ⟨-, -, -, xr, xs, xi, xo, xw, xg⟩ := hx
  obtain ⟨-, -, -, yr, ys, yi, yo, yw, yg⟩ := hy
  obtain ⟨k, tb, cols, key, ix, rows, sets, items, jn, on, wh, gr, ord, lim⟩ := x
  obtain ⟨k', tb', cols', key', ix', rows', sets', items', jn', on', wh', gr', ord', lim'⟩ := y
  dsimp only at kx ky fx fy xr xs xi xo xw xg yr ys yi yo yw yg
  subst kx ky
  simp [formedB, namedB, countedB, onN, hasNm, gL, gH, gTab, spB] at fx fy
  have z_key0 : key = ⟨#[]⟩ := ba_nil (by grind)
  have z_ix0 : ix = ⟨#[]⟩ := ba_nil (by grind)
  have z_jn0 : jn = ⟨#[]⟩ := ba_nil (by grind)
  have z_cols0 : cols = [] := List.eq_nil_of_length_eq_zero (by grind)
  have z_rows0 : rows = [] := List.eq_nil_of_length_eq_zero (by grind)
  have z_sets0 : sets = [] := List.eq_nil_of_length_eq_zero (by grind)
  have z_items0 : items = [] := List.eq_nil_of_length_eq_zero (by grind)
  have z_on0 : on = [] := List.eq_nil_of_length_eq_zero (by grind)
  have z_gr0 : gr = [] := List.eq_nil_of_length_eq_zero (by grind)
  have z_ord0 : ord = [] := List.eq_nil_of_length_eq_zero (by grind)
  have z_lim0 : lim = 0 := by grind
  have n_tb0 : nameB tb = true := by grind
  have z_key1 : key' = ⟨#[]⟩ := ba_nil (by grind)
  have z_ix1 : ix' = ⟨#[]⟩ := ba_nil (by grind)
  have z_jn1 : jn' = ⟨#[]⟩ := ba_nil (by grind)
  have z_cols1 : cols' = [] := List.eq_nil_of_length_eq_zero (by grind)
  have z_rows1 : rows' = [] := List.eq_nil_of_length_eq_zero (by grind)
  have z_sets1 : sets' = [] := List.eq_nil_of_length_eq_zero (by grind)
  have z_items1 : items' = [] := List.eq_nil_of_length_eq_zero (by grind)
  have z_on1 : on' = [] := List.eq_nil_of_length_eq_zero (by grind)
  have z_gr1 : gr' = [] := List.eq_nil_of_length_eq_zero (by grind)
  have z_ord1 : ord' = [] := List.eq_nil_of_length_eq_zero (by grind)
  have z_lim1 : lim' = 0 := by grind
  have n_tb1 : nameB tb' = true := by grind
  subst z_key0 z_key1
  subst z_ix0 z_ix1
  subst z_jn0 z_jn1
  subst z_cols0 z_cols1
  subst z_rows0 z_rows1
  subst z_sets0 z_sets1
  subst z_items0 z_items1
  subst z_on0 z_on1
  subst z_gr0 z_gr1
  subst z_ord0 z_ord1
  subst z_lim0 z_lim1
  clear fx fy
  have h2 : wDF ++ (tb.data.toList ++ partL wwh (prA n) wh) = wDF ++ (tb'.data.toList ++ partL wwh (prA n) wh') := by simpa [stL] using h
  have ox : Opens [wwh] (partL wwh (prA n) wh ++ []) := opens_part (ws := []) (.inl rfl)
  have oy : Opens [wwh] (partL wwh (prA n) wh' ++ []) := opens_part (ws := []) (.inl rfl)
  rw [List.append_nil] at ox oy
  obtain ⟨e1, e5⟩ := span_split (name_all n_tb0).1 (name_all n_tb1).1 (opens_dl (by decide) ox).2.2.1 (opens_dl (by decide) oy).2.2.1 (List.append_cancel_left h2)
  rw [← List.append_nil (partL wwh (prA n) wh), ← List.append_nil (partL wwh (prA n) wh')] at e5
  obtain ⟨e6, _⟩ := epart_split (ws := []) (by rfl) (by rfl) (by decide) (.inl rfl) (.inl rfl) xw yw e5
  obtain rfl := ba_ext e1
  subst e6
  rfl

set_option maxHeartbeats 1000000 in
theorem inj_7 {n : Nat} {x y : St n} (hx : StOk x) (hy : StOk y) (kx : x.kind = 7) (ky : y.kind = 7) (h : stL x = stL y) : x = y := by
  have fx := hx.fm
  have fy := hy.fm
  obtain ⟨-, -, -, xr, xs, xi, xo, xw, xg⟩ := hx
  obtain ⟨-, -, -, yr, ys, yi, yo, yw, yg⟩ := hy
  obtain ⟨k, tb, cols, key, ix, rows, sets, items, jn, on, wh, gr, ord, lim⟩ := x
  obtain ⟨k', tb', cols', key', ix', rows', sets', items', jn', on', wh', gr', ord', lim'⟩ := y
  dsimp only at kx ky fx fy xr xs xi xo xw xg yr ys yi yo yw yg
  subst kx ky
  simp [formedB, namedB, countedB, onN, hasNm, gL, gH, gTab, spB] at fx fy
  have z_key0 : key = ⟨#[]⟩ := ba_nil (by grind)
  have z_ix0 : ix = ⟨#[]⟩ := ba_nil (by grind)
  have z_cols0 : cols = [] := List.eq_nil_of_length_eq_zero (by grind)
  have z_rows0 : rows = [] := List.eq_nil_of_length_eq_zero (by grind)
  have z_sets0 : sets = [] := List.eq_nil_of_length_eq_zero (by grind)
  have n_tb0 : nameB tb = true := by grind
  have z_key1 : key' = ⟨#[]⟩ := ba_nil (by grind)
  have z_ix1 : ix' = ⟨#[]⟩ := ba_nil (by grind)
  have z_cols1 : cols' = [] := List.eq_nil_of_length_eq_zero (by grind)
  have z_rows1 : rows' = [] := List.eq_nil_of_length_eq_zero (by grind)
  have z_sets1 : sets' = [] := List.eq_nil_of_length_eq_zero (by grind)
  have n_tb1 : nameB tb' = true := by grind
  subst z_key0 z_key1
  subst z_ix0 z_ix1
  subst z_cols0 z_cols1
  subst z_rows0 z_rows1
  subst z_sets0 z_sets1
  have lx : 0 < items.length := by grind
  have ly : 0 < items'.length := by grind
  have jx := jn_or (s := jn) (by grind)
  have jy := jn_or (s := jn') (by grind)
  have bx : -1 ≤ lim ∧ lim ≤ 2147483648 := by grind
  have bY : -1 ≤ lim' ∧ lim' ≤ 2147483648 := by grind
  have rx : ∀ o ∈ ord, ordB o = true := by grind
  have ry : ∀ o ∈ ord', ordB o = true := by grind
  clear fx fy
  have h2 : queryT (⟨7, tb, [], ⟨#[]⟩, ⟨#[]⟩, [], [], items, jn, on, wh, gr, ord, lim⟩ : St n) = queryT (⟨7, tb', [], ⟨#[]⟩, ⟨#[]⟩, [], [], items', jn', on', wh', gr', ord', lim'⟩ : St n) := by simpa [stL] using h
  unfold queryT at h2
  dsimp only at h2
  rw [part_on lx, part_on ly, List.append_assoc, List.append_assoc] at h2
  have ox1 := lim_opens lim
  have oy1 := lim_opens lim'
  have ox2 : Opens wOr (partL wor ordT ord ++ limT lim) := opens_part ox1
  have oy2 : Opens wOr (partL wor ordT ord' ++ limT lim') := opens_part oy1
  have ox3 : Opens wGr (partL wgr (prA n) gr ++ (partL wor ordT ord ++ limT lim)) := opens_part ox2
  have oy3 : Opens wGr (partL wgr (prA n) gr' ++ (partL wor ordT ord' ++ limT lim')) := opens_part oy2
  have ox4 : Opens wWh (partL wwh (prA n) wh ++ (partL wgr (prA n) gr ++ (partL wor ordT ord ++ limT lim))) := opens_part ox3
  have oy4 : Opens wWh (partL wwh (prA n) wh' ++ (partL wgr (prA n) gr' ++ (partL wor ordT ord' ++ limT lim'))) := opens_part oy3
  have ox5 : Opens wOn (partL won (prA n) on ++ (partL wwh (prA n) wh ++ (partL wgr (prA n) gr ++ (partL wor ordT ord ++ limT lim)))) := opens_part ox4
  have oy5 : Opens wOn (partL won (prA n) on' ++ (partL wwh (prA n) wh' ++ (partL wgr (prA n) gr' ++ (partL wor ordT ord' ++ limT lim')))) := opens_part oy4
  have ox6 : Opens wJo (joinT jn ++ (partL won (prA n) on ++ (partL wwh (prA n) wh ++ (partL wgr (prA n) gr ++ (partL wor ordT ord ++ limT lim))))) := by
    unfold joinT
    split
    · exact ox5.more
    · rw [List.append_assoc]; exact Opens.here _
  have oy6 : Opens wJo (joinT jn' ++ (partL won (prA n) on' ++ (partL wwh (prA n) wh' ++ (partL wgr (prA n) gr' ++ (partL wor ordT ord' ++ limT lim'))))) := by
    unfold joinT
    split
    · exact oy5.more
    · rw [List.append_assoc]; exact Opens.here _
  obtain ⟨e1, e2⟩ := exprs_splits lx ly xi yi (by rfl) (by rfl) (by rfl) (by rfl) (List.append_cancel_left h2)
  obtain ⟨e3, e4⟩ := span_split (name_all n_tb0).1 (name_all n_tb1).1 (opens_dl (by decide) ox6).2.2.1 (opens_dl (by decide) oy6).2.2.1 (List.append_cancel_left e2)
  obtain ⟨e5, e6⟩ := jn_split (by decide) (by decide) ox5 oy5 jx jy e4
  obtain ⟨e7, e8⟩ := epart_split (by decide) (by decide) (by decide) ox4 oy4 xo yo e6
  obtain ⟨e9, f1⟩ := epart_split (by decide) (by decide) (by decide) ox3 oy3 xw yw e8
  obtain ⟨f2, f3⟩ := epart_split (by decide) (by decide) (by decide) ox2 oy2 xg yg f1
  obtain ⟨f4, f5⟩ := part_split (by decide) (by decide) ox1 oy1 (fun a b g => join_splits (c := 44) (t := [32]) ord_splits (fun u => .inr (.inl ⟨32 :: u, rfl⟩)) ord ord' (List.ne_nil_of_length_pos a) (List.ne_nil_of_length_pos b) rx ry _ _ (opens_dlO ox1) (opens_dlO oy1) (opens_dl (by decide) ox1).2.1 (opens_dl (by decide) oy1).2.1 g) f3
  have f6 := lim_inj bx bY f5
  obtain rfl := ba_ext e3
  subst e1 e5 e7 e9 f2 f4 f6
  rfl

set_option maxHeartbeats 1000000 in
theorem inj_8 {n : Nat} {x y : St n} (hx : StOk x) (hy : StOk y) (kx : x.kind = 8) (ky : y.kind = 8) (h : stL x = stL y) : x = y := by
  have fx := hx.fm
  have fy := hy.fm
  obtain ⟨-, -, -, xr, xs, xi, xo, xw, xg⟩ := hx
  obtain ⟨-, -, -, yr, ys, yi, yo, yw, yg⟩ := hy
  obtain ⟨k, tb, cols, key, ix, rows, sets, items, jn, on, wh, gr, ord, lim⟩ := x
  obtain ⟨k', tb', cols', key', ix', rows', sets', items', jn', on', wh', gr', ord', lim'⟩ := y
  dsimp only at kx ky fx fy xr xs xi xo xw xg yr ys yi yo yw yg
  subst kx ky
  simp [formedB, namedB, countedB, onN, hasNm, gL, gH, gTab, spB] at fx fy
  have z_tb0 : tb = ⟨#[]⟩ := ba_nil (by grind)
  have z_key0 : key = ⟨#[]⟩ := ba_nil (by grind)
  have z_ix0 : ix = ⟨#[]⟩ := ba_nil (by grind)
  have z_jn0 : jn = ⟨#[]⟩ := ba_nil (by grind)
  have z_cols0 : cols = [] := List.eq_nil_of_length_eq_zero (by grind)
  have z_rows0 : rows = [] := List.eq_nil_of_length_eq_zero (by grind)
  have z_sets0 : sets = [] := List.eq_nil_of_length_eq_zero (by grind)
  have z_items0 : items = [] := List.eq_nil_of_length_eq_zero (by grind)
  have z_on0 : on = [] := List.eq_nil_of_length_eq_zero (by grind)
  have z_wh0 : wh = [] := List.eq_nil_of_length_eq_zero (by grind)
  have z_gr0 : gr = [] := List.eq_nil_of_length_eq_zero (by grind)
  have z_ord0 : ord = [] := List.eq_nil_of_length_eq_zero (by grind)
  have z_lim0 : lim = 0 := by grind
  have z_tb1 : tb' = ⟨#[]⟩ := ba_nil (by grind)
  have z_key1 : key' = ⟨#[]⟩ := ba_nil (by grind)
  have z_ix1 : ix' = ⟨#[]⟩ := ba_nil (by grind)
  have z_jn1 : jn' = ⟨#[]⟩ := ba_nil (by grind)
  have z_cols1 : cols' = [] := List.eq_nil_of_length_eq_zero (by grind)
  have z_rows1 : rows' = [] := List.eq_nil_of_length_eq_zero (by grind)
  have z_sets1 : sets' = [] := List.eq_nil_of_length_eq_zero (by grind)
  have z_items1 : items' = [] := List.eq_nil_of_length_eq_zero (by grind)
  have z_on1 : on' = [] := List.eq_nil_of_length_eq_zero (by grind)
  have z_wh1 : wh' = [] := List.eq_nil_of_length_eq_zero (by grind)
  have z_gr1 : gr' = [] := List.eq_nil_of_length_eq_zero (by grind)
  have z_ord1 : ord' = [] := List.eq_nil_of_length_eq_zero (by grind)
  have z_lim1 : lim' = 0 := by grind
  subst z_tb0 z_tb1
  subst z_key0 z_key1
  subst z_ix0 z_ix1
  subst z_jn0 z_jn1
  subst z_cols0 z_cols1
  subst z_rows0 z_rows1
  subst z_sets0 z_sets1
  subst z_items0 z_items1
  subst z_on0 z_on1
  subst z_wh0 z_wh1
  subst z_gr0 z_gr1
  subst z_ord0 z_ord1
  subst z_lim0 z_lim1
  rfl

set_option maxHeartbeats 1000000 in
theorem inj_9 {n : Nat} {x y : St n} (hx : StOk x) (hy : StOk y) (kx : x.kind = 9) (ky : y.kind = 9) (h : stL x = stL y) : x = y := by
  have fx := hx.fm
  have fy := hy.fm
  obtain ⟨-, -, -, xr, xs, xi, xo, xw, xg⟩ := hx
  obtain ⟨-, -, -, yr, ys, yi, yo, yw, yg⟩ := hy
  obtain ⟨k, tb, cols, key, ix, rows, sets, items, jn, on, wh, gr, ord, lim⟩ := x
  obtain ⟨k', tb', cols', key', ix', rows', sets', items', jn', on', wh', gr', ord', lim'⟩ := y
  dsimp only at kx ky fx fy xr xs xi xo xw xg yr ys yi yo yw yg
  subst kx ky
  simp [formedB, namedB, countedB, onN, hasNm, gL, gH, gTab, spB] at fx fy
  have z_tb0 : tb = ⟨#[]⟩ := ba_nil (by grind)
  have z_key0 : key = ⟨#[]⟩ := ba_nil (by grind)
  have z_ix0 : ix = ⟨#[]⟩ := ba_nil (by grind)
  have z_jn0 : jn = ⟨#[]⟩ := ba_nil (by grind)
  have z_cols0 : cols = [] := List.eq_nil_of_length_eq_zero (by grind)
  have z_rows0 : rows = [] := List.eq_nil_of_length_eq_zero (by grind)
  have z_sets0 : sets = [] := List.eq_nil_of_length_eq_zero (by grind)
  have z_items0 : items = [] := List.eq_nil_of_length_eq_zero (by grind)
  have z_on0 : on = [] := List.eq_nil_of_length_eq_zero (by grind)
  have z_wh0 : wh = [] := List.eq_nil_of_length_eq_zero (by grind)
  have z_gr0 : gr = [] := List.eq_nil_of_length_eq_zero (by grind)
  have z_ord0 : ord = [] := List.eq_nil_of_length_eq_zero (by grind)
  have z_lim0 : lim = 0 := by grind
  have z_tb1 : tb' = ⟨#[]⟩ := ba_nil (by grind)
  have z_key1 : key' = ⟨#[]⟩ := ba_nil (by grind)
  have z_ix1 : ix' = ⟨#[]⟩ := ba_nil (by grind)
  have z_jn1 : jn' = ⟨#[]⟩ := ba_nil (by grind)
  have z_cols1 : cols' = [] := List.eq_nil_of_length_eq_zero (by grind)
  have z_rows1 : rows' = [] := List.eq_nil_of_length_eq_zero (by grind)
  have z_sets1 : sets' = [] := List.eq_nil_of_length_eq_zero (by grind)
  have z_items1 : items' = [] := List.eq_nil_of_length_eq_zero (by grind)
  have z_on1 : on' = [] := List.eq_nil_of_length_eq_zero (by grind)
  have z_wh1 : wh' = [] := List.eq_nil_of_length_eq_zero (by grind)
  have z_gr1 : gr' = [] := List.eq_nil_of_length_eq_zero (by grind)
  have z_ord1 : ord' = [] := List.eq_nil_of_length_eq_zero (by grind)
  have z_lim1 : lim' = 0 := by grind
  subst z_tb0 z_tb1
  subst z_key0 z_key1
  subst z_ix0 z_ix1
  subst z_jn0 z_jn1
  subst z_cols0 z_cols1
  subst z_rows0 z_rows1
  subst z_sets0 z_sets1
  subst z_items0 z_items1
  subst z_on0 z_on1
  subst z_wh0 z_wh1
  subst z_gr0 z_gr1
  subst z_ord0 z_ord1
  subst z_lim0 z_lim1
  rfl

set_option maxHeartbeats 1000000 in
theorem inj_10 {n : Nat} {x y : St n} (hx : StOk x) (hy : StOk y) (kx : x.kind = 10) (ky : y.kind = 10) (h : stL x = stL y) : x = y := by
  have fx := hx.fm
  have fy := hy.fm
  obtain ⟨-, -, -, xr, xs, xi, xo, xw, xg⟩ := hx
  obtain ⟨-, -, -, yr, ys, yi, yo, yw, yg⟩ := hy
  obtain ⟨k, tb, cols, key, ix, rows, sets, items, jn, on, wh, gr, ord, lim⟩ := x
  obtain ⟨k', tb', cols', key', ix', rows', sets', items', jn', on', wh', gr', ord', lim'⟩ := y
  dsimp only at kx ky fx fy xr xs xi xo xw xg yr ys yi yo yw yg
  subst kx ky
  simp [formedB, namedB, countedB, onN, hasNm, gL, gH, gTab, spB] at fx fy
  have z_tb0 : tb = ⟨#[]⟩ := ba_nil (by grind)
  have z_key0 : key = ⟨#[]⟩ := ba_nil (by grind)
  have z_ix0 : ix = ⟨#[]⟩ := ba_nil (by grind)
  have z_jn0 : jn = ⟨#[]⟩ := ba_nil (by grind)
  have z_cols0 : cols = [] := List.eq_nil_of_length_eq_zero (by grind)
  have z_rows0 : rows = [] := List.eq_nil_of_length_eq_zero (by grind)
  have z_sets0 : sets = [] := List.eq_nil_of_length_eq_zero (by grind)
  have z_items0 : items = [] := List.eq_nil_of_length_eq_zero (by grind)
  have z_on0 : on = [] := List.eq_nil_of_length_eq_zero (by grind)
  have z_wh0 : wh = [] := List.eq_nil_of_length_eq_zero (by grind)
  have z_gr0 : gr = [] := List.eq_nil_of_length_eq_zero (by grind)
  have z_ord0 : ord = [] := List.eq_nil_of_length_eq_zero (by grind)
  have z_lim0 : lim = 0 := by grind
  have z_tb1 : tb' = ⟨#[]⟩ := ba_nil (by grind)
  have z_key1 : key' = ⟨#[]⟩ := ba_nil (by grind)
  have z_ix1 : ix' = ⟨#[]⟩ := ba_nil (by grind)
  have z_jn1 : jn' = ⟨#[]⟩ := ba_nil (by grind)
  have z_cols1 : cols' = [] := List.eq_nil_of_length_eq_zero (by grind)
  have z_rows1 : rows' = [] := List.eq_nil_of_length_eq_zero (by grind)
  have z_sets1 : sets' = [] := List.eq_nil_of_length_eq_zero (by grind)
  have z_items1 : items' = [] := List.eq_nil_of_length_eq_zero (by grind)
  have z_on1 : on' = [] := List.eq_nil_of_length_eq_zero (by grind)
  have z_wh1 : wh' = [] := List.eq_nil_of_length_eq_zero (by grind)
  have z_gr1 : gr' = [] := List.eq_nil_of_length_eq_zero (by grind)
  have z_ord1 : ord' = [] := List.eq_nil_of_length_eq_zero (by grind)
  have z_lim1 : lim' = 0 := by grind
  subst z_tb0 z_tb1
  subst z_key0 z_key1
  subst z_ix0 z_ix1
  subst z_jn0 z_jn1
  subst z_cols0 z_cols1
  subst z_rows0 z_rows1
  subst z_sets0 z_sets1
  subst z_items0 z_items1
  subst z_on0 z_on1
  subst z_wh0 z_wh1
  subst z_gr0 z_gr1
  subst z_ord0 z_ord1
  subst z_lim0 z_lim1
  rfl

/-- P4.4, in plain words. -/
theorem st_inj {n : Nat} {x y : St n} (hx : chkSt x = 0) (hy : chkSt y = 0) (h : stL x = stL y) : x = y := by
  have a := st_ok hx
  have b := st_ok hy
  have hk := kind_of a b h
  have h1 := a.lo
  have h2 := a.hi
  have : x.kind = 1 ∨ x.kind = 2 ∨ x.kind = 3 ∨ x.kind = 4 ∨ x.kind = 5 ∨ x.kind = 6 ∨ x.kind = 7 ∨ x.kind = 8 ∨ x.kind = 9 ∨ x.kind = 10 := by omega
  rcases this with e | e | e | e | e | e | e | e | e | e
  · exact inj_1 a b e (hk ▸ e) h
  · exact inj_2 a b e (hk ▸ e) h
  · exact inj_3 a b e (hk ▸ e) h
  · exact inj_4 a b e (hk ▸ e) h
  · exact inj_5 a b e (hk ▸ e) h
  · exact inj_6 a b e (hk ▸ e) h
  · exact inj_7 a b e (hk ▸ e) h
  · exact inj_8 a b e (hk ▸ e) h
  · exact inj_9 a b e (hk ▸ e) h
  · exact inj_10 a b e (hk ▸ e) h

end Go.Proofs.YtnbgnofbeklmkaaGreatDoor
