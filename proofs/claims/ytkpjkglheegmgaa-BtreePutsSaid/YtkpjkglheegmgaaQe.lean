/- A node laid out behind its kids: the walk of laidOut's function. Conditions: a node that is read in memory, its kids' contract. -/
import Derived.Test.YtkpjkglheegmgaaQd
import Derived.Test.YtkpjkglheegmgaaSh
import Derived.Deep.RegionHeld3
/- Lists of texts copied: the walks of strings.Clone and fresh. Conditions: a list that is read in memory. -/
namespace Go.Proofs.Ytkpjkglheegmgaa
open Go.RowKit
set_option linter.unusedSimpArgs false
set_option linter.unusedVariables false

theorem sClone_any (s : ByteArray) (w : World) (hs : s.size ≤ 140737488355328) :
    Calls Try.prog 28 #[.string s] w fun e w' => e = .returned (.string s) ∧ Below w.heap.size w w' := by
  have h := Try.stringslite_Clone s w (by omega)
  go_enter Try.func28, Try.ntmps28
  go_wp2_with (go_at_call 45; refine h.mono ?_; rintro e w1 ⟨rfl, hb⟩)
  go_ret
  exact ⟨rfl, hb⟩

set_option maxRecDepth 100000 in
set_option maxHeartbeats 1000000 in
theorem fresh_any (A : Option Addr) (n c : Nat) (l : List Key) (w : World) (hr : Rd w A n c (strs l)) (hn : n ≤ 1000000) :
    Calls Try.prog 53 #[.slice A n c] w fun e w' => ∃ v, e = .returned v ∧ w'.ownsRow w.heap.size 9 1 v n (strs l) ∧ Below w.heap.size w w' := by
  obtain ⟨i0, hi, hz0, hz1, hz2⟩ := info_parts Try.infoS
  have hl : n = l.length := by have := hr.len; rw [strs_len] at this; exact this.symm
  subst hl
  have HR := Lib.hid hr
  have HG := Lib.hid (growS_any l.length w hn)
  clear hr
  go_enter Try.func53, Try.ntmps53
  go_wp2_with (first | (go_at_call 65; (with_reducible refine HG.out.mono ?_); rintro e w1 ⟨v1, rfl, hO, hB⟩; have HO := Lib.hid hO; have HB := Lib.hid hB; clear hO hB))
  go_loopw [3, 5, 11] (fun v _ i wr => ∃ j : Nat, i = .int .i64 j ∧ j ≤ l.length ∧ wr.ownsRow w.heap.size 9 1 v j (strs (l.take j)) ∧ Below w.heap.size w wr) (fun _ _ i _ => l.length - (intOf i).toNat)
  case atStart => exact ⟨0, rfl, by omega, by simpa [strs] using HO.out, HB.out⟩
  case round =>
    obtain ⟨j, rfl, hj, hO2, hB2⟩ := hrel
    have HO2 := Lib.hid hO2
    have HB2 := Lib.hid hB2
    clear hO2 hB2 HO HB
    by_cases hlt : j < l.length
    · obtain ⟨ad, rfl, q0⟩ := (HR.out.below HB2.out).at_ (strs_at hlt)
      have hlt' : (j : Int) < (l.length : Int) := by omega
      have HC := Lib.hid (sClone_any l[j].s wr l[j].h)
      have hst : strs (l.take (j + 1)) = strs (l.take j) ++ [.string l[j].s] := by rw [List.take_succ_eq_append_getElem hlt, strs_app]; rfl
      have HST := Lib.hid hst
      clear hst
      generalize l[j].s = s at *
      go_wp2_with (first | (go_at_call 28; (with_reducible refine HC.out.mono ?_); rintro e w2 ⟨rfl, hB3⟩; have HO3 := Lib.hid (own_below (own_below HO2.out hB3) (below1 w2 (.cells #[.string s] 9))); have HB3 := Lib.hid ((thn HB2.out hB3).alloc (thn HB2.out hB3).size (.cells #[.string s] 9)); clear hB3) | (at_builtin; refine wpList_appendR rfl _ _ 55 rfl w.heap.size 9 i0 (.string ⟨#[]⟩) 16 Try.underlying55 hi hz0 hz1 hz2 rfl _ _ _ rfl HO3.out _ 1 1 [.string s] rfl one_cell (by intro u hu; simp at hu; subst hu; rfl) (by unfold maxLen; omega) (by omega) HB3.out.size ?_; intro v3 w3 hown3 hg3 hat3; have HO4 := Lib.hid hown3; have HG4 := Lib.hid hg3; clear hown3 hg3 hat3))
      go_roundw
      case rel => exact ⟨j + 1, by go_num, hlt, by rw [HST.out]; exact HO4.out, HB3.out.grown HG4.out HB3.out.size (fun k hk => (HO3.out.lt k hk).1)⟩
      case measure => simp [intOf]; omega
    · obtain rfl : j = l.length := by omega
      go_wp2
      go_ret
      have := HO2.out
      rw [List.take_length] at this
      exact ⟨_, rfl, this, HB2.out⟩
end Go.Proofs.Ytkpjkglheegmgaa
/- A state that is being laid out: its nodes, each list of the call's own. Conditions: none. -/
namespace Go.Proofs.Ytkpjkglheegmgaa
open Go.RowKit
set_option linter.unusedSimpArgs false
set_option linter.unusedVariables false

section
variable {B : Nat} {e : TypeId} {k n : Nat} {v : Value} {xs : List Value} {w w' : World}
theorem own_keep (h : w.ownsRow B e k v n xs) (hb : ∀ b, v.ownBlock = some b → w'.heap[b]? = w.heap[b]?) : w'.ownsRow B e k v n xs := by
  refine ⟨h.1, ?_⟩
  rcases h.2 with h1 | ⟨g, cap, cur, rfl, h2, h3, h4⟩
  · exact .inl h1
  · exact .inr ⟨g, cap, cur, rfl, h2, (hb g rfl).trans h3, h4⟩
theorem own_in (h : w.ownsRow B e k v n xs) {b : Nat} (hb : v.ownBlock = some b) : B ≤ b ∧ b < w.heap.size ∧ ∃ cur, w.heap[b]? = some (.cells cur e (0, 0)) := by
  rcases h.2 with ⟨rfl, _⟩ | ⟨g, cap, cur, rfl, h2, h3, h4⟩
  · cases hb
  · injection hb with hb
    subst hb
    exact ⟨h2, heap_lt h3, cur, h3⟩
/-- Blocks of two kinds are two blocks. -/
theorem own_ne {e' : TypeId} (h : w.ownsRow B e k v n xs) {b : Nat} {cur : Array Value} {m : Nat × Nat} (hc : w.heap[b]? = some (.cells cur e' m)) (he : e ≠ e') : v.ownBlock ≠ some b := fun hb => by
  obtain ⟨_, _, cur', h3⟩ := own_in h hb
  rw [hc] at h3
  simp at h3
  exact he h3.2.1.symm
theorem own_two {B' : Nat} {e' : TypeId} {k' n' : Nat} {v' : Value} {xs' : List Value} (h : w.ownsRow B e k v n xs) (h' : w.ownsRow B' e' k' v' n' xs') (he : e ≠ e') : ∀ b, v.ownBlock = some b → v'.ownBlock ≠ some b := fun b hb hb' => by
  obtain ⟨_, _, cur', h3⟩ := own_in h' hb'
  exact own_ne h h3 he hb
end
/-- One of a state's nodes, its lists of the call's own. -/
structure NdAt (w : World) (B : Nat) (h : Hd) (x : Nd) : Prop where
  k : w.ownsRow B 9 1 (.slice h.kA x.ks.length h.kc) x.ks.length (strs x.ks)
  v : w.ownsRow B 9 1 (.slice h.vA x.vs.length h.vc) x.vs.length (strs x.vs)
  c : w.ownsRow B 3 1 (.slice h.cA x.kids.length h.cc) x.kids.length (ints x.kids)
def hcell (h : Hd) (x : Nd) : List Value := [.slice h.kA x.ks.length h.kc, .slice h.vA x.vs.length h.vc, .slice h.cA x.kids.length h.cc]
def hcells : List Hd → List Nd → List Value
  | h :: hs, x :: xs => hcell h x ++ hcells hs xs
  | _, _ => []
theorem hcells_app : ∀ (hs : List Hd) (xs : List Nd) (h : Hd) (x : Nd), hs.length = xs.length → hcells (hs ++ [h]) (xs ++ [x]) = hcells hs xs ++ hcell h x
  | [], [], _, _, _ => by simp [hcells]
  | h :: hs, x :: xs, h', x', e => by simp [hcells, hcells_app hs xs h' x' (by simpa using e)]
  | [], _ :: _, _, _, e => by simp at e
  | _ :: _, [], _, _, e => by simp at e
/-- Blocks but bs and the nodes' own are as they were. -/
structure Lf (bs : Nat) (v : Value) (w w' : World) : Prop where
  os : w'.os = w.os
  tape : w'.tape = w.tape
  output : w'.output = w.output
  size : w.heap.size ≤ w'.heap.size
  block : ∀ b, b < w.heap.size → b ≠ bs → v.ownBlock ≠ some b → w'.heap[b]? = w.heap[b]?
theorem Lf.of_below {bs : Nat} {v : Value} {w w' : World} (h : Below w.heap.size w w') : Lf bs v w w' := ⟨h.os, h.tape, h.output, h.size, fun b hb _ _ => h.block b hb⟩
theorem Lf.trans {bs : Nat} {v v' : Value} {a b c : World} (h : Lf bs v a b) (h' : Lf bs v' b c) (hv : ∀ x, v'.ownBlock = some x → v.ownBlock = some x ∨ a.heap.size ≤ x) : Lf bs v a c :=
  ⟨h'.os.trans h.os, h'.tape.trans h.tape, h'.output.trans h.output, Nat.le_trans h.size h'.size, fun x hx h1 h2 => (h'.block x (Nat.lt_of_lt_of_le hx h.size) h1 fun e => by
    rcases hv x e with h3 | h3
    · exact h2 h3
    · omega).trans (h.block x hx h1 h2)⟩
theorem Lf.below {bs B : Nat} {v : Value} {w w' : World} (h : Lf bs v w w') (hB : B ≤ w.heap.size) (h1 : B ≤ bs) (h2 : ∀ b, v.ownBlock = some b → B ≤ b) : Below B w w' :=
  ⟨h.os, h.tape, h.output, h.size, fun k hk => h.block k (by omega) (by omega) fun e => by have := h2 k e; omega⟩
/-- The variable s at bs holds the nodes acc. -/
structure Sv (w : World) (B bs : Nat) (v : Value) (hs : List Hd) (acc : List Nd) : Prop where
  le : B ≤ bs
  s : w.heap[bs]? = some (.cells #[v, .int .i64 (-1)] 27 (0, 0))
  o : w.ownsRow B 66 3 v acc.length (hcells hs acc)
  len : hs.length = acc.length
  at_ : ∀ (i : Nat) (h : Hd) (x : Nd), hs[i]? = some h → acc[i]? = some x → NdAt w B h x
theorem NdAt.lf {w w' : World} {B bs : Nat} {h : Hd} {x : Nd} {v : Value} {hs : List Hd} {acc : List Nd} (n : NdAt w B h x) (s : Sv w B bs v hs acc) (f : Lf bs v w w') : NdAt w' B h x := by
  have key : ∀ {e : TypeId} {u : Value} {m : Nat} {xs : List Value}, w.ownsRow B e 1 u m xs → e ≠ 27 → e ≠ 66 → w'.ownsRow B e 1 u m xs := fun ho h1 h2 => by
    refine own_keep ho fun b hb => f.block b (own_in ho hb).2.1 (fun e => ?_) (own_two ho s.o h2 b hb)
    subst e
    exact own_ne ho s.s h1 hb
  exact ⟨key n.k (by decide) (by decide), key n.v (by decide) (by decide), key n.c (by decide) (by decide)⟩
theorem NdAt.below {w w' : World} {B : Nat} {h : Hd} {x : Nd} (n : NdAt w B h x) (hb : Below w.heap.size w w') : NdAt w' B h x := ⟨own_below n.k hb, own_below n.v hb, own_below n.c hb⟩
theorem Sv.below {w w' : World} {B bs : Nat} {v : Value} {hs : List Hd} {acc : List Nd} (s : Sv w B bs v hs acc) (hb : Below w.heap.size w w') : Sv w' B bs v hs acc :=
  ⟨s.le, (hb.block bs (heap_lt s.s)).trans s.s, own_below s.o hb, s.len, fun i h x h1 h2 => (s.at_ i h x h1 h2).below hb⟩
/-- Where a node's list of kids lies. -/
def Hd.kids (h : Hd) : Option Nat := h.cA.map (·.block)
/-- What laying out leaves. -/
def LayPost (w w' : World) (B bs : Nat) (v : Value) (hs : List Hd) (acc acc' : List Nd) : Prop :=
  ∃ v' hn, Sv w' B bs v' (hs ++ hn) acc' ∧ (∀ b, v'.ownBlock = some b → v.ownBlock = some b ∨ w.heap.size ≤ b) ∧ (∀ h ∈ hn, ∀ b, h.kids = some b → w.heap.size ≤ b) ∧ Lf bs v w w'
/-- The variable lay at bl holds the function itself. -/
def Lay (w : World) (B bl bs : Nat) : Prop := B ≤ bl ∧ w.heap[bl]? = some (.cells #[.func (.func 52) #[] #[.pointer (some ⟨bl, 0, none⟩), .pointer (some ⟨bs, 0, none⟩)]] 104 (0, 0))
end Go.Proofs.Ytkpjkglheegmgaa
/- The loop of laying out: what stands while a node's kids are laid out. Conditions: none. -/
namespace Go.Proofs.Ytkpjkglheegmgaa
open Go.RowKit
set_option linter.unusedSimpArgs false
set_option linter.unusedVariables false

theorem layK_snoc (f : Tr → List Nd → List Nd) (c : Tr) : ∀ (cs : List Tr) (acc : List Nd), layK f (cs ++ [c]) acc = (f c (layK f cs acc).1, (layK f cs acc).2 ++ [((f c (layK f cs acc).1).length : Int) - 1])
  | [], acc => rfl
  | x :: cs, acc => by simp [layK, layK_snoc f c cs]
/-- While a node's kids are laid out: w is the world at the beginning, bn the node's variable. -/
structure Lp (w wr : World) (B bl bs bn : Nat) (v vj : Value) (hs hn : List Hd) (accj : List Nd) (t : Tr) (A1 A2 : Option Addr) (c1 c2 : Nat) (kr : Value) (kids : List Int) : Prop where
  s : Sv wr B bs vj (hs ++ hn) accj
  nb : wr.heap[bn]? = some (.cells #[.slice A1 t.ks.length c1, .slice A2 t.vs.length c2, kr] 66 (0, 0))
  bw : w.heap.size ≤ bn
  Bw : B ≤ w.heap.size
  nv : vj.ownBlock ≠ some bn
  r : wr.ownsRow B 3 1 kr kids.length (ints kids)
  rw_ : ∀ b, kr.ownBlock = some b → w.heap.size ≤ b
  k : wr.ownsRow B 9 1 (.slice A1 t.ks.length c1) t.ks.length (strs t.ks)
  vl : wr.ownsRow B 9 1 (.slice A2 t.vs.length c2) t.vs.length (strs t.vs)
  hv : ∀ b, vj.ownBlock = some b → v.ownBlock = some b ∨ w.heap.size ≤ b
  hk : ∀ h ∈ hn, ∀ b, h.kids = some b → w.heap.size ≤ b ∧ kr.ownBlock ≠ some b
  ho : ∀ h ∈ hs, ∀ b, h.kids = some b → b < w.heap.size
  lay : Lay wr B bl bs
  f : Lf bs v w wr
theorem Lay.lf {w w' : World} {B bl bs : Nat} {v : Value} {hs : List Hd} {acc : List Nd} (l : Lay w B bl bs) (s : Sv w B bs v hs acc) (f : Lf bs v w w') : Lay w' B bl bs :=
  ⟨l.1, (f.block bl (heap_lt l.2) (fun e => by
    subst e
    have h1 := l.2.symm.trans s.s
    simp at h1) (own_ne s.o l.2 (by decide))).trans l.2⟩
theorem kids_own {h : Hd} {x : Nd} {b : Nat} : Value.ownBlock (.slice h.cA x.kids.length h.cc) = some b ↔ h.kids = some b := by
  unfold Hd.kids
  cases h.cA <;> simp [Value.ownBlock]
section
variable {w wr w' : World} {B bl bs bn : Nat} {v vj : Value} {hs hn : List Hd} {accj acc' : List Nd} {t : Tr} {A1 A2 : Option Addr} {c1 c2 : Nat} {kr : Value} {kids : List Int}
theorem Lp.bnbs (l : Lp w wr B bl bs bn v vj hs hn accj t A1 A2 c1 c2 kr kids) : bn ≠ bs := fun e => by
  subst e
  have h1 := l.nb.symm.trans l.s.s
  simp at h1
/-- A kid is laid out. -/
theorem Lp.call (l : Lp w wr B bl bs bn v vj hs hn accj t A1 A2 c1 c2 kr kids) (p : LayPost wr w' B bs vj (hs ++ hn) accj acc') : ∃ vj' hn', Lp w w' B bl bs bn v vj' hs hn' acc' t A1 A2 c1 c2 kr kids := by
  obtain ⟨v', hm, s', h1, h2, f'⟩ := p
  have hbn := heap_lt l.nb
  have key : ∀ {e : TypeId} {u : Value} {m : Nat} {xs : List Value}, wr.ownsRow B e 1 u m xs → e ≠ 27 → e ≠ 66 → w'.ownsRow B e 1 u m xs := fun ho h1 h2 => by
    refine own_keep ho fun b hb => f'.block b (own_in ho hb).2.1 (fun e => ?_) (own_two ho l.s.o h2 b hb)
    subst e
    exact own_ne ho l.s.s h1 hb
  refine ⟨v', hn ++ hm, ⟨by rw [← List.append_assoc]; exact s', (f'.block bn hbn l.bnbs l.nv).trans l.nb, l.bw, l.Bw, fun e => ?_, key l.r (by decide) (by decide), l.rw_, key l.k (by decide) (by decide), key l.vl (by decide) (by decide), fun b hb => ?_, fun h hh b hb => ?_, l.ho, l.lay.lf l.s f', l.f.trans f' l.hv⟩⟩
  · rcases h1 bn e with h | h
    · exact l.nv h
    · omega
  · rcases h1 b hb with h | h
    · exact l.hv b h
    · exact .inr (Nat.le_trans l.f.size h)
  · rcases List.mem_append.1 hh with h3 | h3
    · exact l.hk h h3 b hb
    · have h4 := h2 h h3 b hb
      refine ⟨Nat.le_trans l.f.size h4, fun e => ?_⟩
      have := (own_in l.r e).2.1
      omega
theorem Lp.below (l : Lp w wr B bl bs bn v vj hs hn accj t A1 A2 c1 c2 kr kids) (hb : Below wr.heap.size wr w') : Lp w w' B bl bs bn v vj hs hn accj t A1 A2 c1 c2 kr kids :=
  ⟨l.s.below hb, (hb.block bn (heap_lt l.nb)).trans l.nb, l.bw, l.Bw, l.nv, own_below l.r hb, l.rw_, own_below l.k hb, own_below l.vl hb, l.hv, l.hk, l.ho, ⟨l.lay.1, (hb.block bl (heap_lt l.lay.2)).trans l.lay.2⟩, l.f.trans (Lf.of_below hb) l.hv⟩
/-- Its number is put behind the others. -/
theorem Lp.push (l : Lp w wr B bl bs bn v vj hs hn accj t A1 A2 c1 c2 kr kids) {w3 : World} {v3 : Value} {i : Int} (hg : wr.grownBy w3 kr.ownBlock) (ho : w3.ownsRow B 3 1 v3 (kids.length + 1) (ints (kids ++ [i]))) (ha : v3.ownBlock = kr.ownBlock ∨ v3.ownBlock = some wr.heap.size) :
    Lp w (w3.setCell ⟨bn, 2, none⟩ v3) B bl bs bn v vj hs hn accj t A1 A2 c1 c2 v3 (kids ++ [i]) := by
  have hbn := heap_lt l.nb
  have hkb : kr.ownBlock ≠ some bn := own_ne l.r l.nb (by decide)
  have nb3 : w3.heap[bn]? = some (.cells #[.slice A1 t.ks.length c1, .slice A2 t.vs.length c2, kr] 66 (0, 0)) := (hg.block bn hbn (fun e => hkb e.symm)).trans l.nb
  have oth : ∀ b, b < wr.heap.size → kr.ownBlock ≠ some b → b ≠ bn → (w3.setCell ⟨bn, 2, none⟩ v3).heap[b]? = wr.heap[b]? := fun b h1 h2 h3 =>
    (heap_setCell_other w3 ⟨bn, 2, none⟩ b v3 h3).trans (hg.block b h1 fun e => h2 e.symm)
  have key : ∀ {e : TypeId} {u : Value} {m : Nat} {xs : List Value}, wr.ownsRow B e 1 u m xs → e ≠ 3 → e ≠ 66 → (w3.setCell ⟨bn, 2, none⟩ v3).ownsRow B e 1 u m xs := fun ho h1 h2 => by
    refine own_keep ho fun b hb => oth b (own_in ho hb).2.1 (own_two ho l.r h1 b hb) (fun e => ?_)
    subst e
    exact own_ne ho l.nb h2 hb
  have hbs : bs < wr.heap.size := heap_lt l.s.s
  have hbl := heap_lt l.lay.2
  have hsz : wr.heap.size ≤ (w3.setCell ⟨bn, 2, none⟩ v3).heap.size := by simpa [World.setCell] using hg.size
  have hv3 : ∀ b, v3.ownBlock = some b → w.heap.size ≤ b := fun b hb => by
    rcases ha with h | h
    · exact l.rw_ b (h ▸ hb)
    · rw [h] at hb; injection hb with hb; have := l.f.size; omega
  refine ⟨⟨l.s.le, (oth bs hbs (own_ne l.r l.s.s (by decide)) (Ne.symm l.bnbs)).trans l.s.s, own_keep l.s.o fun b hb => oth b (own_in l.s.o hb).2.1 (own_two l.s.o l.r (by decide) b hb) (fun e => l.nv (e ▸ hb)), l.s.len, fun j h x h1 h2 => ?_⟩, ?_, l.bw, l.Bw, l.nv, ?_, hv3, key l.k (by decide) (by decide), key l.vl (by decide) (by decide), l.hv, fun h hh b hb => ⟨(l.hk h hh b hb).1, fun e => ?_⟩, l.ho, ⟨l.lay.1, (oth bl hbl (own_ne l.r l.lay.2 (by decide)) (fun e => ?_)).trans l.lay.2⟩, ⟨?_, ?_, ?_, ?_, fun b h1 h2 h3 => ?_⟩⟩
  · have hx := l.s.at_ j h x h1 h2
    refine ⟨key hx.k (by decide) (by decide), key hx.v (by decide) (by decide), own_keep hx.c fun b hb => oth b (own_in hx.c hb).2.1 (fun e => ?_) (fun e => ?_)⟩
    · rcases List.mem_append.1 (List.mem_of_getElem? h1) with hm | hm
      · have := l.ho h hm b (kids_own.1 hb)
        have := l.rw_ b e
        omega
      · exact (l.hk h hm b (kids_own.1 hb)).2 e
    · subst e
      exact own_ne hx.c l.nb (by decide) hb
  · rw [heap_setCell_same w3 bn 2 _ _ _ nb3]; simp
  · rw [List.length_append, List.length_singleton]
    refine own_keep ho fun b hb => heap_setCell_other w3 ⟨bn, 2, none⟩ b v3 fun e => ?_
    have e' : b = bn := e
    subst e'
    exact own_ne ho nb3 (by decide) hb
  · rcases ha with h3 | h3
    · exact (l.hk h hh b hb).2 (h3 ▸ e)
    · rw [h3] at e
      injection e with e
      obtain ⟨j, hj, rfl⟩ := List.getElem_of_mem hh
      have hj2 : hs.length + j < (hs ++ hn).length := by rw [List.length_append]; omega
      have hj3 : hs.length + j < accj.length := by rw [← l.s.len]; exact hj2
      have hx := l.s.at_ (hs.length + j) hn[j] accj[hs.length + j] (by rw [List.getElem?_append_right (by omega)]; simp [hj]) (List.getElem?_eq_getElem hj3)
      have := (own_in hx.c (kids_own.2 hb)).2.1
      omega
  · subst e
    have h1 := l.nb.symm.trans l.lay.2
    simp at h1
  · exact hg.os.trans l.f.os
  · exact hg.tape.trans l.f.tape
  · exact hg.output.trans l.f.output
  · exact Nat.le_trans l.f.size hsz
  · have hb' : b < wr.heap.size := Nat.lt_of_lt_of_le h1 l.f.size
    exact (oth b hb' (fun e => by have := l.rw_ b e; omega) (by have := l.bw; omega)).trans (l.f.block b h1 h2 h3)
/-- At the beginning. -/
theorem Lp.start {wx : World} {acc : List Nd} (hsv : Sv w B bs v hs acc) (hlay : Lay w B bl bs) (hBw : B ≤ w.heap.size) (hb : Below w.heap.size w wx) (hn : wx.heap[bn]? = some (.cells #[.slice A1 t.ks.length c1, .slice A2 t.vs.length c2, .slice none 0 0] 66 (0, 0))) (hbn : w.heap.size ≤ bn)
    (k : wx.ownsRow B 9 1 (.slice A1 t.ks.length c1) t.ks.length (strs t.ks)) (vl : wx.ownsRow B 9 1 (.slice A2 t.vs.length c2) t.vs.length (strs t.vs)) : Lp w wx B bl bs bn v v hs [] acc t A1 A2 c1 c2 (.slice none 0 0) [] :=
  ⟨by rw [List.append_nil]; exact hsv.below hb, hn, hbn, hBw, fun e => by have := (own_in hsv.o e).2.1; omega, World.ownsRow_nil _ _ _ _, fun b hb => (by cases hb), k, vl, fun b hb => .inl hb, fun h hh => (by cases hh), fun h hh b hb => (by
    obtain ⟨j, hj, rfl⟩ := List.getElem_of_mem hh
    have hj3 : j < acc.length := by rw [← hsv.len]; exact hj
    have hx := hsv.at_ j hs[j] acc[j] (List.getElem?_eq_getElem hj) (List.getElem?_eq_getElem hj3)
    exact (own_in hx.c (kids_own.2 hb)).2.1), ⟨hlay.1, (hb.block bl (heap_lt hlay.2)).trans hlay.2⟩, Lf.of_below hb⟩
end
theorem three_set {w : World} {b : Nat} {x y z a c d : Value} {T : TypeId} (h : w.heap[b]? = some (.cells #[a, c, d] T (0, 0))) :
    (((w.setCell ⟨b, 0, none⟩ x).setCell ⟨b, 1, none⟩ y).setCell ⟨b, 2, none⟩ z).heap[b]? = some (.cells #[x, y, z] T (0, 0)) ∧ ∀ b', b' ≠ b → (((w.setCell ⟨b, 0, none⟩ x).setCell ⟨b, 1, none⟩ y).setCell ⟨b, 2, none⟩ z).heap[b']? = w.heap[b']? := by
  have h1 := heap_setCell_same w b 0 _ _ x h
  have h2 := heap_setCell_same _ b 1 _ _ y h1
  have h3 := heap_setCell_same _ b 2 _ _ z h2
  refine ⟨by rw [h3]; simp, fun b' hb => ?_⟩
  rw [heap_setCell_other _ ⟨b, 2, none⟩ b' z hb, heap_setCell_other _ ⟨b, 1, none⟩ b' y hb, heap_setCell_other _ ⟨b, 0, none⟩ b' x hb]
end Go.Proofs.Ytkpjkglheegmgaa
/- Laying out a node: its end. Conditions: none. -/
namespace Go.Proofs.Ytkpjkglheegmgaa
open Go.RowKit
set_option linter.unusedSimpArgs false
set_option linter.unusedVariables false

theorem layK_mono {f : Tr → List Nd → List Nd} (hm : ∀ c acc, acc.length ≤ (f c acc).length) : ∀ (cs ds : List Tr) (acc : List Nd), (layK f cs acc).1.length ≤ (layK f (cs ++ ds) acc).1.length
  | [], [], acc => Nat.le_refl _
  | [], d :: ds, acc => by
    have := layK_mono hm [] ds (f d acc)
    simp only [List.nil_append, layK] at *
    exact Nat.le_trans (hm d acc) this
  | c :: cs, ds, acc => by simpa [layK] using layK_mono hm cs ds (f c acc)
theorem Try.infoN : (Try.prog.info? 66).map (fun i => (i.zero, i.size, i.bytes)) = some (some (.agg #[.slice none 0 0, .slice none 0 0, .slice none 0 0]), 3, 72) := by kernel_rfl
theorem info_parts3 {P : Program} {e : TypeId} {z : Value} {k b : Nat} (h : (P.info? e).map (fun i => (i.zero, i.size, i.bytes)) = some (some z, k, b)) : ∃ i, P.info? e = some i ∧ i.zero = some z ∧ i.size = k ∧ i.bytes = b := by
  cases hi : P.info? e with
  | none => rw [hi] at h; cases h
  | some i =>
    rw [hi] at h
    simp at h
    exact ⟨i, rfl, h.1, h.2.1, h.2.2⟩
theorem Lp.done {w wr w3 : World} {B bl bs bn : Nat} {v vj v3 : Value} {hs hn : List Hd} {accj acc : List Nd} {t : Tr} {A1 A2 kA : Option Addr} {c1 c2 kc : Nat} {kids : List Int} (l : Lp w wr B bl bs bn v vj hs hn accj t A1 A2 c1 c2 (.slice kA kids.length kc) kids)
    (hg : wr.grownBy w3 vj.ownBlock) (ho : w3.ownsRow B 66 3 v3 (accj.length + 1) (hcells (hs ++ hn) accj ++ hcell ⟨A1, c1, A2, c2, kA, kc⟩ ⟨t.ks, t.vs, kids⟩)) (ha : v3.ownBlock = vj.ownBlock ∨ v3.ownBlock = some wr.heap.size) :
    LayPost w (w3.setCell ⟨bs, 0, none⟩ v3) B bs v hs acc (accj ++ [⟨t.ks, t.vs, kids⟩]) := by
  have hbs := heap_lt l.s.s
  have hnb : vj.ownBlock ≠ some bs := own_ne l.s.o l.s.s (by decide)
  have s3 := (hg.block bs hbs (fun e => hnb e.symm)).trans l.s.s
  have oth : ∀ b, b < wr.heap.size → vj.ownBlock ≠ some b → b ≠ bs → (w3.setCell ⟨bs, 0, none⟩ v3).heap[b]? = wr.heap[b]? := fun b h1 h2 h3 =>
    (heap_setCell_other w3 ⟨bs, 0, none⟩ b v3 h3).trans (hg.block b h1 fun e => h2 e.symm)
  have key : ∀ {e : TypeId} {u : Value} {m : Nat} {xs : List Value}, wr.ownsRow B e 1 u m xs → e ≠ 27 → e ≠ 66 → (w3.setCell ⟨bs, 0, none⟩ v3).ownsRow B e 1 u m xs := fun ho h1 h2 => by
    refine own_keep ho fun b hb => oth b (own_in ho hb).2.1 (own_two ho l.s.o h2 b hb) (fun e => ?_)
    subst e
    exact own_ne ho l.s.s h1 hb
  have hsz : wr.heap.size ≤ (w3.setCell ⟨bs, 0, none⟩ v3).heap.size := by simpa [World.setCell] using hg.size
  have hv3 : ∀ b, v3.ownBlock = some b → v.ownBlock = some b ∨ w.heap.size ≤ b := fun b hb => by
    rcases ha with h | h
    · exact l.hv b (h ▸ hb)
    · rw [h] at hb; injection hb with hb; have := l.f.size; exact .inr (by omega)
  refine ⟨v3, hn ++ [⟨A1, c1, A2, c2, kA, kc⟩], ⟨l.s.le, by rw [heap_setCell_same w3 bs 0 _ _ _ s3]; simp, ?_, by have := l.s.len; simp at *; omega, fun j h x h1 h2 => ?_⟩, hv3, fun h hh b hb => ?_, ⟨hg.os.trans l.f.os, hg.tape.trans l.f.tape, hg.output.trans l.f.output, Nat.le_trans l.f.size hsz, fun b h1 h2 h3 => ?_⟩⟩
  · rw [← List.append_assoc, hcells_app _ _ _ _ l.s.len, List.length_append, List.length_singleton]
    refine own_keep ho fun b hb => heap_setCell_other w3 ⟨bs, 0, none⟩ b v3 fun e => ?_
    have e' : b = bs := e
    subst e'
    exact own_ne ho s3 (by decide) hb
  · have hl := l.s.len
    rw [← List.append_assoc] at h1
    by_cases hj : j < accj.length
    · rw [List.getElem?_append_left (by omega)] at h1
      rw [List.getElem?_append_left hj] at h2
      have hx := l.s.at_ j h x h1 h2
      exact ⟨key hx.k (by decide) (by decide), key hx.v (by decide) (by decide), key hx.c (by decide) (by decide)⟩
    · have hj2 : j < (accj ++ [(⟨t.ks, t.vs, kids⟩ : Nd)]).length := (List.getElem?_eq_some_iff.1 h2).1
      simp only [List.length_append, List.length_singleton] at hj2
      obtain rfl : j = accj.length := by omega
      rw [List.getElem?_append_right (by omega)] at h1
      rw [List.getElem?_append_right (by omega)] at h2
      rw [hl, Nat.sub_self] at h1
      rw [Nat.sub_self] at h2
      injection h1 with h1
      injection h2 with h2
      subst h1 h2
      exact ⟨key l.k (by decide) (by decide), key l.vl (by decide) (by decide), key l.r (by decide) (by decide)⟩
  · rcases List.mem_append.1 hh with h3 | h3
    · exact (l.hk h h3 b hb).1
    · simp at h3
      subst h3
      exact l.rw_ b (kids_own (h := ⟨A1, c1, A2, c2, kA, kc⟩) (x := ⟨t.ks, t.vs, kids⟩).2 hb)
  · exact (oth b (Nat.lt_of_lt_of_le h1 l.f.size) (fun e => by
      rcases l.hv b e with h | h
      · exact h3 h
      · omega) h2).trans (l.f.block b h1 h2 h3)
end Go.Proofs.Ytkpjkglheegmgaa
namespace Go.Proofs.Ytkpjkglheegmgaa
open Go.RowKit
set_option linter.unusedSimpArgs false
set_option linter.unusedVariables false

set_option maxRecDepth 100000 in
set_option maxHeartbeats 2000000 in
theorem lay_of (f : Tr → List Nd → List Nd) (hmono : ∀ c acc, acc.length ≤ (f c acc).length) (t : Tr) (g : Nat) (gs : List Nat) (hd : Hd) (w0 : World) (bl bs : Nat) (hb0 : RdB w0 g t gs hd) (hk : t.ks.length ≤ 1000) (hvl : t.vs.length ≤ 1000) (hcl : t.cs.length ≤ 1000)
    (IH : ∀ (i gi : Nat) (c : Tr), gs[i]? = some gi → t.cs[i]? = some c → ∀ (W : World) (v : Value) (hs : List Hd) (acc : List Nd), Below w0.heap.size w0 W → Sv W w0.heap.size bs v hs acc → Lay W w0.heap.size bl bs → (f c acc).length ≤ 1000000 →
      Calls Try.prog 52 #[ptr gi, ptr bl, ptr bs] W fun e w' => e = .returned (.int .i64 (((f c acc).length : Int) - 1)) ∧ LayPost W w' w0.heap.size bs v hs acc (f c acc))
    (w : World) (v : Value) (hs : List Hd) (acc : List Nd) (hB : Below w0.heap.size w0 w) (hsv : Sv w w0.heap.size bs v hs acc) (hlay : Lay w w0.heap.size bl bs) (hlen : (layK f t.cs acc).1.length + 1 ≤ 1000000) :
    Calls Try.prog 52 #[ptr g, ptr bl, ptr bs] w fun e w' => e = .returned (.int .i64 ((((layK f t.cs acc).1 ++ [(⟨t.ks, t.vs, (layK f t.cs acc).2⟩ : Nd)]).length : Int) - 1)) ∧ LayPost w w' w0.heap.size bs v hs acc ((layK f t.cs acc).1 ++ [(⟨t.ks, t.vs, (layK f t.cs acc).2⟩ : Nd)]) := by
  have hb := hb0.below hB
  have HB := Lib.hid hb
  have HSL := Lib.hid (show ∀ W, Below w.heap.size w W → W.cell? ⟨g, 0, none⟩ = some (.slice hd.kA t.ks.length hd.kc) ∧ W.cell? ⟨g, 1, none⟩ = some (.slice hd.vA t.vs.length hd.vc) from fun W h => by
    obtain ⟨c0, c1, _⟩ := (hb.below h).cells
    exact ⟨c0, c1⟩)
  have HK := Lib.hid (fun W (h : Below w.heap.size w W) => fresh_any hd.kA t.ks.length hd.kc t.ks W (hb.below h).k (by omega))
  have HV := Lib.hid (fun W (h : Below w.heap.size w W) => fresh_any hd.vA t.vs.length hd.vc t.vs W (hb.below h).v (by omega))
  obtain ⟨c0, c1, _⟩ := hb.cells
  have hbw := hB.size
  have HBW := Lib.hid hB
  have HB0 := Lib.hid hb0
  have HSV := Lib.hid hsv
  have HLY := Lib.hid hlay
  have HIH := Lib.hid IH
  have hg0 := hb.lt
  clear hb hb0 hB hsv hlay IH
  go_enter Try.func52, Try.ntmps52
  go_upto_region 1 with fail
  have hS0 := HSL.out w.drew (Below.refl _ _).drew
  clear c0 c1
  obtain ⟨c0, c1⟩ := hS0
  go_cut [5] (fun pn wx => ∃ (bn : Nat) (A1 : Option Addr) (c1 : Nat) (A2 : Option Addr) (c2 : Nat), pn = .pointer (some ⟨bn, 0, none⟩) ∧ Lp w wx w0.heap.size bl bs bn v v hs [] acc t A1 A2 c1 c2 (.slice none 0 0) [])
  case first =>
    go_region_held3 (fun W => W.cell? ⟨g, 0, none⟩ = some (.slice hd.kA t.ks.length hd.kc) ∧ W.cell? ⟨g, 1, none⟩ = some (.slice hd.vA t.vs.length hd.vc))
      (exact HSL.out _ (by repeat (first | (with_reducible refine Below.setCell ?_ (by first | omega | (simp; done) | (simp; omega)) _) | (with_reducible exact HB2.out) | (with_reducible exact HB1.out) | (with_reducible exact Below.refl _ _) | (with_reducible refine Below.alloc ?_ (by first | omega | (simp; done) | (simp; omega)) _) | (with_reducible refine Below.drew ?_))))
      (first
      | (go_at_call 53; (with_reducible refine (HV.out _ (by repeat (first | (with_reducible exact HB1.out) | (with_reducible refine Below.alloc ?_ (by first | omega | (simp; done) | (simp; omega)) _) | (with_reducible refine Below.drew ?_)))).mono ?_); rintro e w2 ⟨u2, rfl, hO, hb⟩; obtain ⟨A2, c2, rfl⟩ := own_form hO; have HO2 := Lib.hid hO; have H12 := Lib.hid hb; have HB2 := Lib.hid (show Below w.heap.size w w2 from thn (by repeat (first | (with_reducible exact HB1.out) | (with_reducible refine Below.alloc ?_ (by first | omega | (simp; done) | (simp; omega)) _) | (with_reducible refine Below.drew ?_))) hb); have h2s : w.heap.size ≤ w2.heap.size := HB2.out.size; (first | (have HN2 := Lib.hid ((hb.block w1.heap.size (by simp)).trans (heap_alloc_new w1 (.cells #[.slice none 0 0, .slice none 0 0, .slice none 0 0] 66))); obtain ⟨n0, n1, n2, m0, m1, m2⟩ := three_of HN2.out) | (have HN2 := Lib.hid ((hb.block w.heap.size (by have := heap_lt HN1.out; omega)).trans HN1.out); obtain ⟨n0, n1, n2, m0, m1, m2⟩ := three_of HN2.out) | skip); clear hO hb)
      | (go_at_call 53; (with_reducible refine (HK.out _ (by repeat (first | (with_reducible exact Below.refl _ _) | (with_reducible refine Below.alloc ?_ (by first | omega | (simp; done) | (simp; omega)) _) | (with_reducible refine Below.drew ?_)))).mono ?_); rintro e w1 ⟨u1, rfl, hO, hb⟩; obtain ⟨A1, c1, rfl⟩ := own_form hO; have HO1 := Lib.hid hO; have H01 := Lib.hid hb; have HB1 := Lib.hid (show Below w.heap.size w w1 from thn (by repeat (first | (with_reducible exact Below.refl _ _) | (with_reducible refine Below.alloc ?_ (by first | omega | (simp; done) | (simp; omega)) _) | (with_reducible refine Below.drew ?_))) hb); have h1s : w.heap.size ≤ w1.heap.size := HB1.out.size; (first | (have HN1 := Lib.hid ((hb.block w.heap.size (by simp)).trans (heap_alloc_new w (.cells #[.slice none 0 0, .slice none 0 0, .slice none 0 0] 66)))) | skip); clear hO hb))
    all_goals go_wp2_with fail
    all_goals go_meet
    all_goals
      have K12 : Below w1.heap.size w1 w2 := by first | exact H12.out | exact thn (below1 _ _) H12.out
      have k1 := own_below (own_le (B' := w0.heap.size) HO1.out (by first | omega | (simp; omega))) K12
      have k2 := own_le (B' := w0.heap.size) HO2.out (by first | omega | (simp; omega))
    · exact ⟨w2.heap.size, A1, c1, A2, c2, rfl, Lp.start HSV.out HLY.out hbw (HB2.out.alloc HB2.out.size _) (heap_alloc_new w2 _) h2s (own_below k1 (below1 _ _)) (own_below k2 (below1 _ _))⟩
    all_goals
      obtain ⟨s1, s2⟩ := three_set (x := .slice A1 t.ks.length c1) (y := .slice A2 t.vs.length c2) (z := .slice none 0 0) HN2.out
      refine ⟨_, A1, c1, A2, c2, rfl, Lp.start HSV.out HLY.out hbw (Below.setCell (Below.setCell (Below.setCell HB2.out (by first | omega | (simp; done)) _) (by first | omega | (simp; done)) _) (by first | omega | (simp; done)) _) s1 (by omega) (own_keep k1 fun b hb => s2 b fun e => ?_) (own_keep k2 fun b hb => s2 b fun e => ?_)⟩
      · subst e; exact own_ne k1 HN2.out (by decide) hb
      · subst e; exact own_ne k2 HN2.out (by decide) hb
  case rest =>
    obtain ⟨bn, A1, d1, A2, d2, rfl, hL⟩ := hcut
    clear c0 c1 HSL HK HV HB
    have HBL := Lib.hid fun (wr : World) (vj : Value) (hn : List Hd) (accj : List Nd) (kr : Value) (kids : List Int) (l : Lp w wr w0.heap.size bl bs bn v vj hs hn accj t A1 A2 d1 d2 kr kids) => HBW.out.trans (l.f.below hbw HSV.out.le fun b hb => (own_in HSV.out.o hb).1)
    obtain ⟨_, _, c2⟩ := (HB0.out.below (HBL.out _ _ _ _ _ _ hL)).cells
    have HL := Lib.hid hL
    clear hL
    go_wp2
    obtain ⟨iI, hiI, hiz, hi1, hi2⟩ := info_parts Try.infoI
    go_loopw [7, 24] (fun _ i wr => ∃ (j : Nat) (vj : Value) (hn : List Hd) (kr : Value), i = .int .i64 j ∧ j ≤ t.cs.length ∧ Lp w wr w0.heap.size bl bs bn v vj hs hn (layK f (t.cs.take j) acc).1 t A1 A2 d1 d2 kr (layK f (t.cs.take j) acc).2) (fun _ i _ => t.cs.length - (intOf i).toNat)
    case atStart => exact ⟨0, v, [], _, rfl, by omega, by simpa [layK] using HL.out⟩
    case round =>
      obtain ⟨j, vj, hn, kr, rfl, hj, hl⟩ := hrel
      have hbt := HBL.out _ _ _ _ _ _ hl
      obtain ⟨kA, kc, rfl⟩ := own_form hl.r
      have hkl := layK_kids f (t.cs.take j) acc
      rw [List.length_take, Nat.min_eq_left hj] at hkl
      have HLJ := Lib.hid hl
      have HBT := Lib.hid hbt
      clear hl hbt c2 HL
      by_cases hlt : j < t.cs.length
      · have hn' : j < gs.length := by rw [HB0.out.n]; exact hlt
        obtain ⟨ad, ha, q0⟩ := (HB0.out.below HBT.out).c.at_ (ptrs_at hn')
        rw [ha]
        have hlt' : (j : Int) < (t.cs.length : Int) := by omega
        have htk : t.cs.take (j + 1) = t.cs.take j ++ [t.cs[j]] := List.take_succ_eq_append_getElem hlt
        have hsn := layK_snoc f t.cs[j] (t.cs.take j) acc
        rw [← htk] at hsn
        have hmn := layK_mono hmono (t.cs.take (j + 1)) (t.cs.drop (j + 1)) acc
        rw [List.take_append_drop, hsn] at hmn
        simp only at hmn
        have HC := Lib.hid (HIH.out j gs[j] t.cs[j] (List.getElem?_eq_getElem hn') (List.getElem?_eq_getElem hlt) wr.drew vj (hs ++ hn) (layK f (t.cs.take j) acc).1 HBT.out.drew (HLJ.out.s.below (Below.refl _ _).drew) (HLJ.out.below (Below.refl _ _).drew).lay (by omega))
        have HSN := Lib.hid hsn
        clear hsn htk ha
        generalize (layK f (t.cs.take j) acc).1 = accj at *
        generalize (layK f (t.cs.take j) acc).2 = kids at *
        generalize f t.cs[j] accj = acc2 at *
        generalize gs[j] = gj at *
        obtain ⟨x0, x1, x2, y0, y1, y2⟩ := three_of HLJ.out.nb
        have z0 : wr.cell? ⟨bl, 0, none⟩ = some (.func (.func 52) #[] #[.pointer (some ⟨bl, 0, none⟩), .pointer (some ⟨bs, 0, none⟩)]) := by have := HLJ.out.lay.2; simp [World.cell?, this]
        go_upto_region 5 with fail
        clear q0
        refine region_anyT (fun w' => w'.cell? ⟨bn, 2, none⟩ = some (.slice kA kids.length kc) ∧ w'.cell? ⟨bl, 0, none⟩ = some (.func (.func 52) #[] #[.pointer (some ⟨bl, 0, none⟩), .pointer (some ⟨bs, 0, none⟩)])) [1, 2, 4, 5] (by kernel_rfl) ⟨x2, z0⟩ ?_
        intro hcl hS
        clear x0 x1 x2 y0 y1 y2 z0
        refine anyT_free (i := 0) (v := ?v0) rfl (by kernel_rfl) (by kernel_rfl) (by kernel_rfl) (by kernel_rfl) (fun _ _ _ h => h) (Or.inl ⟨by rfl, ?hy0⟩) hcl ?rest0
        case hy0 => intro w' _; go_simp; with_reducible rfl
        clear hcl
        intro hcl
        try simp only [Act.put, List.setIfInBounds_toArray, List.set_cons_zero, List.set_cons_succ]
        refine anyT_free (i := 3) (v := ?v3) rfl (by kernel_rfl) (by kernel_rfl) (by kernel_rfl) (by kernel_rfl) (fun _ _ _ h => h) (Or.inl ⟨by rfl, ?hy3⟩) hcl ?rest3
        case hy3 => intro w' _; go_simp; with_reducible rfl
        clear hcl
        intro hcl
        try simp only [Act.put, List.setIfInBounds_toArray, List.set_cons_zero, List.set_cons_succ]
        refine anyT_take (i := 1) (v := .slice kA kids.length kc) rfl (by kernel_rfl) (by kernel_rfl) (by kernel_rfl) (by kernel_rfl) (fun _ _ _ h => h) (Or.inl ⟨by rfl, ?hy1⟩) hS hcl ?rest1
        case hy1 => intro w' hSw; obtain ⟨q2, z2⟩ := hSw; go_simp; try rfl
        clear hcl
        intro hcl
        try simp only [Act.put, List.setIfInBounds_toArray, List.set_cons_zero, List.set_cons_succ]
        refine anyT_take (i := 2) (v := .func (.func 52) #[] #[.pointer (some ⟨bl, 0, none⟩), .pointer (some ⟨bs, 0, none⟩)]) rfl (by kernel_rfl) (by kernel_rfl) (by kernel_rfl) (by kernel_rfl) (fun _ _ _ h => h) (Or.inl ⟨by rfl, ?hy2⟩) hS hcl ?rest2
        case hy2 => intro w' hSw; obtain ⟨q2, z2⟩ := hSw; go_simp; try rfl
        clear hcl
        intro hcl
        try simp only [Act.put, List.setIfInBounds_toArray, List.set_cons_zero, List.set_cons_succ]
        refine anyT_step (k := 4) rfl (by kernel_rfl) hcl ?_
        intro K hK
        go_simp
        go_at_call 52
        (with_reducible refine HC.out.mono ?_)
        rintro e w1 ⟨rfl, hp⟩
        obtain ⟨vk, hm, hl1⟩ := (HLJ.out.below (Below.refl _ _).drew).call hp
        have HL1 := Lib.hid hl1
        have HL2 := Lib.hid (hl1.below (below1 w1 (.cells #[.int .i64 ((acc2.length : Int) - 1)] 3)))
        clear hp hl1 hS hcl HC HLJ HBT
        refine hK.out _ _ (by obtain ⟨_, _, x2, _, _, _⟩ := three_of HL1.out.nb; exact ⟨x2, by have := HL1.out.lay.2; simp [World.cell?, this]⟩) (fun hS hcl => ?_)
        clear hK K
        try simp only [Act.put, List.setIfInBounds_toArray, List.set_cons_zero, List.set_cons_succ]
        refine anyT_step (k := 5) rfl (by kernel_rfl) hcl ?_
        intro K hK
        go_simp
        clear hS hcl
        refine hK.out _ _ (by obtain ⟨_, _, x2, _, _, _⟩ := three_of HL2.out.nb; exact ⟨x2, by have := HL2.out.lay.2; simp [World.cell?, this]⟩) (fun hS hcl => ?_)
        clear hK K hS
        try simp only [Act.put, List.setIfInBounds_toArray, List.set_cons_zero, List.set_cons_succ]
        obtain ⟨v3, w3, hrun, ho3, hg3, ha3⟩ := run_appendR (P := Try.prog) (w1.alloc (.cells #[.int .i64 ((acc2.length : Int) - 1)] 3)) w0.heap.size 63 63 3 iI (.int .i64 0) 8 Try.underlying63 hiI hiz hi1 hi2 rfl (.slice kA j kc) j (ints kids) (by have := HL2.out.r; rw [hkl] at this; exact this) _ 1 1 [.int .i64 ((acc2.length : Int) - 1)] one_cell (by intro u hu; simp at hu; subst hu; rfl) (by unfold maxLen; omega) (by omega) (by have := HL2.out.Bw; have := HL2.out.f.size; omega)
        obtain ⟨A3, e3, rfl⟩ := own_form ho3
        have hkq : (Value.slice kA j kc).ownBlock = (Value.slice kA kids.length kc).ownBlock := by rw [hkl]
        rw [hkq] at hg3 ha3
        have hbn3 := (hg3.block bn (heap_lt HL2.out.nb) (fun e => own_ne HL2.out.r HL2.out.nb (by decide) e.symm)).trans HL2.out.nb
        have HP := Lib.hid (HL2.out.push (i := (acc2.length : Int) - 1) hg3 (by rw [hkl]; simpa [ints] using ho3) ha3)
        obtain ⟨x0, x1, x2, y0, y1, y2⟩ := three_of hbn3
        refine anyT_last (k := 6) rfl (by kernel_rfl) (by kernel_rfl) hcl ?_
        intro K hK
        rw [if_pos (by rfl)]
        refine Lib.wp_append_run _ _ _ _ _ rfl _ _ rfl rfl _ w3 hrun ?_
        clear hrun hcl ho3 hg3 ha3 hbn3
        refine hK.out _ _ (fun hcl => ?_)
        clear hK K
        try simp only [Act.put, List.setIfInBounds_toArray, List.set_cons_zero, List.set_cons_succ]
        refine anyT_free (i := 7) (v := ?v7) rfl (by kernel_rfl) (by kernel_rfl) (by kernel_rfl) (by kernel_rfl) (fun _ _ _ h => h) (Or.inl ⟨by rfl, ?hy7⟩) hcl ?rest7
        case hy7 => intro w' _; go_simp; with_reducible rfl
        clear hcl
        intro hcl
        try simp only [Act.put, List.setIfInBounds_toArray, List.set_cons_zero, List.set_cons_succ]
        refine anyT_last (k := 8) rfl (by kernel_rfl) (by kernel_rfl) hcl ?_
        intro K hK
        go_simp
        clear hcl
        refine hK.out _ _ (fun hcl => ?_)
        clear hK K
        refine anyT_done (by kernel_rfl) ?_ _
        go_simp
        clear hcl x0 x1 x2 y0 y1 y2
        go_wp2
        go_roundw
        case rel => exact ⟨j + 1, vk, _, _, by go_num, hlt, by rw [HSN.out]; exact HP.out⟩
        case measure => simp [intOf]; omega
      · obtain rfl : j = t.cs.length := by omega
        rw [List.take_length] at HLJ hkl
        obtain ⟨Av, cv, rfl⟩ := own_form HLJ.out.s.o
        obtain ⟨iN, hiN, hnz, hn1, hn2⟩ := info_parts3 Try.infoN
        generalize hq1 : (layK f t.cs acc).1 = accj at *
        generalize hq2 : (layK f t.cs acc).2 = kids at *
        have HQ1 := Lib.hid hq1
        have HQ2 := Lib.hid hq2
        clear hq1 hq2
        obtain ⟨x0, x1, x2, y0, y1, y2⟩ := three_of HLJ.out.nb
        have s0 : wr.cell? ⟨bs, 0, none⟩ = some (.slice Av accj.length cv) := by have := HLJ.out.s.s; simp [World.cell?, this]
        have HL2 := Lib.hid (HLJ.out.below (below1 wr (.cells #[.slice A1 t.ks.length d1, .slice A2 t.vs.length d2, .slice kA kids.length kc] 66)))
        obtain ⟨q0, q1, q2, _, _, _⟩ := three_of (heap_alloc_new wr (.cells #[.slice A1 t.ks.length d1, .slice A2 t.vs.length d2, .slice kA kids.length kc] 66))
        obtain ⟨v3, w3, hrun, ho3, hg3, _, ha3⟩ := run_append_own_at (P := Try.prog) (w := wr.alloc (.cells #[.slice A1 t.ks.length d1, .slice A2 t.vs.length d2, .slice kA kids.length kc] 66)) w0.heap.size 25 25 66 iN (.agg #[.slice none 0 0, .slice none 0 0, .slice none 0 0]) 3 72 Try.underlying25 hiN hnz hn1 hn2 rfl (by decide) (.slice Av accj.length cv) accj.length (hcells (hs ++ hn) accj) HL2.out.s.o ⟨wr.heap.size, 0, none⟩ 1 1 (hcell ⟨A1, d1, A2, d2, kA, kc⟩ ⟨t.ks, t.vs, kids⟩) rfl (fun i u hu => by
          match i, hu with
          | 0, hu => simp [hcell] at hu; subst hu; exact q0
          | 1, hu => simp [hcell] at hu; subst hu; exact q1
          | 2, hu => simp [hcell] at hu; subst hu; exact q2
          | _ + 3, hu => simp [hcell] at hu) (fun u hu => by
          simp [hcell] at hu
          rcases hu with rfl | rfl | rfl <;> rfl) (by unfold maxLen; omega) (by omega) (by have := HL2.out.Bw; have := HL2.out.f.size; omega)
        obtain ⟨A3, e3, rfl⟩ := own_form ho3
        have hbs3 := (hg3.block bs (heap_lt HL2.out.s.s) (fun e => own_ne HL2.out.s.o HL2.out.s.s (by decide) e.symm)).trans HL2.out.s.s
        have p0 : w3.cell? ⟨bs, 0, none⟩ = some (.slice Av accj.length cv) := by simp [World.cell?, hbs3]
        have p1 : w3.frozen? ⟨bs, 0, none⟩ = false := by simp [World.frozen?, hbs3]
        have HD := Lib.hid (HL2.out.done (acc := acc) hg3 ho3 ha3)
        have HRUN := Lib.hid hrun
        rw [hkl] at x2 HRUN
        clear hg3 ho3 ha3 hbs3 q0 q1 q2 hrun HL2 HIH HBL HSV HLY HBW HB0 HBT HLJ
        go_wp2_with (at_builtin; refine Lib.wpList_append_run _ rfl _ _ _ _ rfl _ _ rfl rfl _ _ HRUN.out ?_)
        go_ret
        exact ⟨by rw [HQ1.out]; simp, by rw [HQ1.out, HQ2.out]; exact HD.out⟩
end Go.Proofs.Ytkpjkglheegmgaa
