/- What stands under a key: the walk of get. Conditions: a tree that may be, read in memory. -/
import Derived.Test.YtkpjkglheegmgaaQe
import Derived.Laws.EntriesVeiled
import Derived.Deep.RegionLaw
import Derived.RegionTactic
import Derived.Deep.RegionWith
/- A tree laid out: the walks of New, laidOut. Conditions: a tree that may be, read in memory. -/
namespace Go.Proofs.Ytkpjkglheegmgaa
open Go.RowKit
set_option linter.unusedSimpArgs false
set_option linter.unusedVariables false

theorem lay_any : ∀ (n a b : Nat) (lo hi : Bd) (t : Tr) (g : Nat) (F : List Nat) (w0 : World) (bl bs : Nat), Ok n a b lo hi t → b ≤ 6 → RdN n w0 g t F →
    ∀ (W : World) (v : Value) (hs : List Hd) (acc : List Nd), Below w0.heap.size w0 W → Sv W w0.heap.size bs v hs acc → Lay W w0.heap.size bl bs → (lay n t acc).length ≤ 1000000 →
      Calls Try.prog 52 #[ptr g, ptr bl, ptr bs] W fun e w' => e = .returned (.int .i64 (((lay n t acc).length : Int) - 1)) ∧ LayPost W w' w0.heap.size bs v hs acc (lay n t acc)
  | 0, a, b, lo, hi, t, g, F, w0, bl, bs, ho, hb, hr, W, v, hs, acc, hB, hsv, hl, hlen => by
    obtain ⟨rfl, hc, h, hbk⟩ := hr
    have := ho.len
    have hv := ho.shape
    have hv2 : t.vs.length = t.ks.length := hv
    have main := lay_of (fun _ acc => acc) (fun _ _ => Nat.le_refl _) t g [] h w0 bl bs hbk (by omega) (by omega) (by rw [hc]; simp) (fun i gi c e1 e2 => by rw [hc] at e2; simp at e2) W v hs acc hB hsv hl (by rw [hc]; simp [layK, lay] at *; omega)
    rw [hc] at main
    exact main
  | n + 1, a, b, lo, hi, t, g, F, w0, bl, bs, ho, hb, hr, W, v, hs, acc, hB, hsv, hl, hlen => by
    obtain ⟨gs, Fs, h, rfl, hc, hbk, hF, hk⟩ := hr.inner
    have := ho.len
    have hcl := ho.kids
    have hv : t.vs = [] := ho.shape.1
    refine lay_of (lay n) (fun c acc => by have := (lay_pre n c acc).2; omega) t g gs h w0 bl bs hbk (by omega) (by rw [hv]; simp) (by omega) (fun i gi c e1 e2 W v hs acc b1 b2 b3 b4 => ?_) W v hs acc hB hsv hl (by simpa [lay] using hlen)
    have hi : i < t.cs.length := (List.getElem?_eq_some_iff.1 e2).1
    obtain ⟨c', e3, _, hco⟩ := ho.about (i := i) (by omega)
    rw [e2] at e3
    injection e3 with e3
    subst e3
    exact lay_any n 2 4 _ _ c gi Fs[i] w0 bl bs hco (by omega) (hk i gi c _ e1 e2 (List.getElem?_eq_getElem (by omega))) W v hs acc b1 b2 b3 b4

theorem new_any (w : World) : Calls Try.prog 24 #[] w fun e w' => e = .returned (.agg #[.slice none 0 0, .int .i64 (-1)]) ∧ Below w.heap.size w w' := by
  go_enter Try.func24, Try.ntmps24
  go_wp2
  exact bodyPost_ret (v := .agg #[.slice none 0 0, .int .i64 (-1)]) (by simp [results, Try.results24, go_sem]) rfl ⟨rfl, below1 _ _⟩
theorem Rd.own' {w : World} {B : Nat} {e : TypeId} {A : Option Addr} {n m c : Nat} {xs : List Value} (h : w.ownsRow B e 1 (.slice A n c) m xs) (hn : n = m) : Rd w A n c xs := by
  subst hn
  obtain ⟨A', c', e, h⟩ := Rd.of_own h
  injection e with e1 e2 e3
  subst e1 e3
  exact h
theorem hcells_at : ∀ (hs : List Hd) (xs : List Nd) (i : Nat) (h : Hd) (x : Nd), hs[i]? = some h → xs[i]? = some x →
    (hcells hs xs)[i * 3]? = some (.slice h.kA x.ks.length h.kc) ∧ (hcells hs xs)[i * 3 + 1]? = some (.slice h.vA x.vs.length h.vc) ∧ (hcells hs xs)[i * 3 + 2]? = some (.slice h.cA x.kids.length h.cc)
  | [], _, _, _, _, e, _ => by simp at e
  | _ :: _, [], _, _, _, _, e => by simp at e
  | h :: hs, x :: xs, 0, h', x', e1, e2 => by simp at e1 e2; subst e1 e2; exact ⟨rfl, rfl, rfl⟩
  | h :: hs, x :: xs, i + 1, h', x', e1, e2 => by
    obtain ⟨a, b, c⟩ := hcells_at hs xs i h' x' (by simpa using e1) (by simpa using e2)
    have e : hcells (h :: hs) (x :: xs) = .slice h.kA x.ks.length h.kc :: .slice h.vA x.vs.length h.vc :: .slice h.cA x.kids.length h.cc :: hcells hs xs := rfl
    rw [e, show (i + 1) * 3 = i * 3 + 1 + 1 + 1 by omega, show i * 3 + 1 + 1 + 1 + 1 = i * 3 + 1 + 1 + 1 + 1 from rfl]
    exact ⟨a, by rw [show i * 3 + 1 + 1 + 1 + 1 = (i * 3 + 1) + 1 + 1 + 1 by omega]; exact b, by rw [show i * 3 + 1 + 1 + 1 + 2 = (i * 3 + 2) + 1 + 1 + 1 by omega]; exact c⟩
theorem nds_RdS {w : World} {B : Nat} {v : Value} {hs : List Hd} {acc : List Nd} (o : w.ownsRow B 66 3 v acc.length (hcells hs acc)) (len : hs.length = acc.length) (at_ : ∀ (i : Nat) (h : Hd) (x : Nd), hs[i]? = some h → acc[i]? = some x → NdAt w B h x) :
    ∃ A c, v = .slice A acc.length c ∧ acc.length ≤ c ∧ c ≤ 9223372036854775807 ∧ RdS w A acc.length acc := by
  have oo := o
  rcases o.2 with ⟨rfl, hn⟩ | ⟨g, cap, cur, rfl, _, _, hc, hm, _⟩
  · have : acc = [] := List.eq_nil_of_length_eq_zero hn
    subst this
    exact ⟨none, 0, rfl, by simp, by omega, rfl, by simp, fun i x hx => by simp at hx⟩
  · unfold maxLen at hm
    refine ⟨_, cap, rfl, hc, hm, rfl, by omega, fun i x hx => ?_⟩
    have hi : i < hs.length := by rw [len]; exact (List.getElem?_eq_some_iff.1 hx).1
    have hh := List.getElem?_eq_getElem hi
    obtain ⟨a, b, c⟩ := hcells_at hs acc i hs[i] x hh hx
    have n := at_ i hs[i] x hh hx
    have cell := fun (j : Nat) (u : Value) (hj : (hcells hs acc)[j]? = some u) => oo.cells (g := g) rfl j u hj
    refine ⟨⟨g, 0, none⟩, hs[i], rfl, cell _ _ a, ?_, ?_, Rd.own' n.k rfl, Rd.own' n.v rfl, Rd.own' n.c rfl⟩
    · have := cell _ _ b
      rw [add_two _ _ (by omega)] at this
      exact this
    · have := cell _ _ c
      rw [add_two _ _ (by omega)] at this
      exact this
/-- A state that is answered, its nodes the call's own. -/
def StateB (w : World) (B : Nat) (v : Value) (s : List Nd × Int) : Prop := ∃ A c hs, v = .agg #[.slice A s.1.length c, .int .i64 s.2] ∧ w.ownsRow B 66 3 (.slice A s.1.length c) s.1.length (hcells hs s.1) ∧ hs.length = s.1.length ∧ ∀ (i : Nat) (h : Hd) (x : Nd), hs[i]? = some h → s.1[i]? = some x → NdAt w B h x
theorem StateB.rd {w : World} {B : Nat} {v : Value} {s : List Nd × Int} (h : StateB w B v s) : ∃ A c, v = .agg #[.slice A s.1.length c, .int .i64 s.2] ∧ RdS w A s.1.length s.1 := by
  obtain ⟨A, c, hs, rfl, o, l, a⟩ := h
  obtain ⟨A', c', e, _, _, r⟩ := nds_RdS o l a
  injection e with e1
  subst e1
  exact ⟨A, c, rfl, r⟩
theorem StateB.le {w : World} {B B' : Nat} {v : Value} {s : List Nd × Int} (h : StateB w B v s) (hB : B' ≤ B) : StateB w B' v s := by
  obtain ⟨A, c, hs, rfl, o, l, a⟩ := h
  exact ⟨A, c, hs, rfl, own_le o hB, l, fun i h x h1 h2 => ⟨own_le (a i h x h1 h2).k hB, own_le (a i h x h1 h2).v hB, own_le (a i h x h1 h2).c hB⟩⟩
/-- What is written into variables of type State touches no nodes. -/
theorem StateB.keep {w w' : World} {B : Nat} {v : Value} {s : List Nd × Int} (h : StateB w B v s) (hk : ∀ b : Nat, (∀ (cur : Array Value) (m : Nat × Nat), w.heap[b]? ≠ some (Obj.cells cur 27 m)) → w'.heap[b]? = w.heap[b]?) : StateB w' B v s := by
  obtain ⟨A, c, hs, rfl, o, l, a⟩ := h
  have key : ∀ {e : TypeId} {k : Nat} {u : Value} {m : Nat} {xs : List Value}, w.ownsRow B e k u m xs → e ≠ 27 → w'.ownsRow B e k u m xs := fun ho h1 =>
    own_keep ho fun x hx => hk x fun cur m hc => own_ne ho hc h1 hx
  exact ⟨A, c, hs, rfl, key o (by decide), l, fun i h x h1 h2 => ⟨key (a i h x h1 h2).k (by decide), key (a i h x h1 h2).v (by decide), key (a i h x h1 h2).c (by decide)⟩⟩

set_option maxRecDepth 100000 in
set_option maxHeartbeats 1000000 in
theorem laidOut_any (n a b : Nat) (lo hi : Bd) (t : Tr) (g : Nat) (F : List Nat) (w : World) (ho : Ok n a b lo hi t) (hb : b ≤ 6) (hr : RdN n w g t F) (hlen : (lay n t []).length ≤ 1000000) :
    Calls Try.prog 37 #[ptr g] w fun e w' => ∃ v, e = .returned v ∧ StateB w' w.heap.size v (layS n t) ∧ Below w.heap.size w w' := by
  obtain ⟨gs, h, hbk⟩ := hr.node
  obtain ⟨c0, _, _⟩ := hbk.cells
  have hg := hbk.lt
  have hkc := hbk.k.cap
  have hkl := hbk.k.le
  have HNW := Lib.hid new_any
  have HR := Lib.hid hr
  have HB := Lib.hid hbk
  clear hr hbk
  go_enter Try.func37, Try.ntmps37
  go_upto_region 2 with (first | (go_at_call 24; (with_reducible refine (HNW.out _).mono ?_); rintro e w1 ⟨rfl, hb1⟩; have HB1 := Lib.hid hb1; clear hb1))
  have h1s := HB1.out.size
  simp only [World.size_alloc] at h1s
  have hb0 : (w1.alloc (.cells #[.slice none 0 0, .int .i64 (-1)] 27)).heap[w.heap.size]? = some (.cells #[.slice none 0 0, .int .i64 0] 27 (0, 0)) := (Below.heap_alloc w1 _ w.heap.size (by omega)).trans ((HB1.out.block w.heap.size (by simp)).trans (heap_alloc_new w (.cells #[.slice none 0 0, .int .i64 0] 27)))
  have hbs := heap_alloc_new w1 (.cells #[.slice none 0 0, .int .i64 (-1)] 27)
  have hB2 : Below w.heap.size w (w1.alloc (.cells #[.slice none 0 0, .int .i64 (-1)] 27)) := (thn (below1 w _) HB1.out).alloc (by omega) _
  have hsz : (w1.alloc (.cells #[.slice none 0 0, .int .i64 (-1)] 27)).heap.size = w1.heap.size + 1 := by simp
  have hgb : w.heap.size < w1.heap.size := by omega
  have HSZ := Lib.hid hsz
  clear hsz
  generalize w1.heap.size = bs at hbs HSZ hgb ⊢
  generalize w1.alloc (.cells #[.slice none 0 0, .int .i64 (-1)] 27) = w2 at hb0 hbs hB2 HSZ ⊢
  clear HB1 h1s
  obtain ⟨x0, x1⟩ : w2.cell? ⟨w.heap.size, 0, none⟩ = some (.slice none 0 0) ∧ w2.cell? ⟨w.heap.size, 1, none⟩ = some (.int .i64 0) := by simp [World.cell?, hb0]
  have x2 : ∀ o, w2.frozen? ⟨w.heap.size, o, none⟩ = false := fun o => by simp [World.frozen?, hb0]
  obtain ⟨y0, y1⟩ : w2.cell? ⟨bs, 0, none⟩ = some (.slice none 0 0) ∧ w2.cell? ⟨bs, 1, none⟩ = some (.int .i64 (-1)) := by simp [World.cell?, hbs]
  clear c0
  obtain ⟨c0, _, _⟩ := (HB.out.below hB2).cells
  by_cases h0 : t.ks.length = 0
  · have h0i : (t.ks.length : Int) = 0 := by omega
    have hks : t.ks = [] := List.eq_nil_of_length_eq_zero h0
    clear h0
    have f0 := x2 0
    have f1 := x2 1
    go_wp2
    have r := heap_setCell_same _ w.heap.size 1 _ _ (.int .i64 (-1)) (heap_setCell_same w2 w.heap.size 0 _ _ (.slice none 0 0) hb0)
    generalize hW : (w2.setCell ⟨w.heap.size, 0, none⟩ (.slice none 0 0)).setCell ⟨w.heap.size, 1, none⟩ (.int .i64 (-1)) = W at r ⊢
    have r0 : W.cell? ⟨w.heap.size, 0, none⟩ = some (.slice none 0 0) := by simp [World.cell?, r]
    have r1 : W.cell? ⟨w.heap.size, 1, none⟩ = some (.int .i64 (-1)) := by simp [World.cell?, r]
    have hl : layS n t = ([], -1) := by unfold layS; rw [hks]; rfl
    have hBW : Below w.heap.size w W := by rw [← hW]; exact (hB2.setCell (Nat.le_refl _) _).setCell (Nat.le_refl _) _
    exact bodyPost_ret (v := .agg #[.slice none 0 0, .int .i64 (-1)]) (by simp [results, Try.results37, go_sem, r0, r1]) rfl ⟨_, rfl, by rw [hl]; exact ⟨none, 0, [], rfl, World.ownsRow_nil _ _ _ _, rfl, fun i h x h1 => by simp at h1⟩, hBW⟩
  · have h0i : ¬ (t.ks.length : Int) = 0 := by omega
    have hmf : ∀ (fn : Fn) (first cap : Array Value) (w : World), (Instr.makeFunc fn first cap).run Try.prog w = .ok (.func fn first cap) w := fun _ _ _ _ => rfl
    go_upto_region 6 with fail
    have hl : layS n t = (lay n t [], ((lay n t []).length : Int) - 1) := by
      unfold layS
      cases hks : t.ks with
      | nil => rw [hks] at h0; exact absurd rfl h0
      | cons _ _ => rfl
    have hl2 : w.heap.size ≤ w2.heap.size := hB2.size
    have HW3 := Lib.hid (heap_alloc_new w2 (.cells #[.func (.func 52) #[] #[.pointer (some ⟨w2.heap.size, 0, none⟩), .pointer (some ⟨bs, 0, none⟩)]] 104))
    have hB3 := hB2.alloc (by omega) (.cells #[.func (.func 52) #[] #[.pointer (some ⟨w2.heap.size, 0, none⟩), .pointer (some ⟨bs, 0, none⟩)]] 104)
    have h32 := below1 w2 (.cells #[.func (.func 52) #[] #[.pointer (some ⟨w2.heap.size, 0, none⟩), .pointer (some ⟨bs, 0, none⟩)]] 104)
    generalize w2.alloc (.cells #[.func (.func 52) #[] #[.pointer (some ⟨w2.heap.size, 0, none⟩), .pointer (some ⟨bs, 0, none⟩)]] 104) = W3 at *
    generalize w2.heap.size = bl at *
    have hbs3 := (h32.block bs (by have := HSZ.out; omega)).trans hbs
    have hb03 := (h32.block w.heap.size (by have := HSZ.out; omega)).trans hb0
    have HC := Lib.hid (lay_any n a b lo hi t g F w bl bs ho hb HR.out W3 (.slice none 0 0) [] [] hB3 ⟨by omega, hbs3, World.ownsRow_nil _ _ _ _, rfl, fun i h x h1 => by simp at h1⟩ ⟨by omega, HW3.out⟩ hlen)
    have z0 : W3.cell? ⟨bl, 0, none⟩ = some (.func (.func 52) #[] #[.pointer (some ⟨bl, 0, none⟩), .pointer (some ⟨bs, 0, none⟩)]) := by have := HW3.out; simp [World.cell?, this]
    clear x0 x1 x2 y0 y1 c0 hb0 hbs h32
    have hbl3 : w.heap.size < W3.heap.size := heap_lt hb03
    go_upto_region 7 with (first | (go_at_call 52; (with_reducible refine HC.out.mono ?_); rintro e w4 ⟨rfl, v', hn, hsv, _, _, hlf⟩; have HSV := Lib.hid hsv; have HLF := Lib.hid hlf; have y1 : w4.cell? ⟨bs, 1, none⟩ = some (.int .i64 (-1)) := (by have := hsv.s; simp [World.cell?, this]); have yf : w4.frozen? ⟨bs, 1, none⟩ = false := (by have := hsv.s; simp [World.frozen?, this]); clear hsv hlf))
    obtain ⟨A, c, rfl⟩ := own_form HSV.out.o
    have hb4 : w4.heap[w.heap.size]? = some (.cells #[.slice none 0 0, .int .i64 0] 27 (0, 0)) := (HLF.out.block w.heap.size hbl3 (by omega) (fun e => by cases e)).trans hb03
    have hs5 := heap_setCell_same w4 bs 1 _ _ (.int .i64 (((lay n t []).length : Int) - 1)) HSV.out.s
    have hb5 := (heap_setCell_other w4 ⟨bs, 1, none⟩ w.heap.size (.int .i64 (((lay n t []).length : Int) - 1)) (by show w.heap.size ≠ bs; omega)).trans hb4
    have ho5 : ∀ x, x ≠ bs → (w4.setCell ⟨bs, 1, none⟩ (.int .i64 (((lay n t []).length : Int) - 1))).heap[x]? = w4.heap[x]? := fun x hx => heap_setCell_other w4 ⟨bs, 1, none⟩ x _ hx
    have HB5 := Lib.hid (hB3.trans (((HLF.out.below (B := w.heap.size) (by omega) (by omega) (fun x e => by cases e))).setCell (p := ⟨bs, 1, none⟩) (by show w.heap.size ≤ bs; omega) (.int .i64 (((lay n t []).length : Int) - 1))))
    generalize w4.setCell ⟨bs, 1, none⟩ (.int .i64 (((lay n t []).length : Int) - 1)) = w5 at *
    obtain ⟨s0, s1⟩ : w5.cell? ⟨bs, 0, none⟩ = some (.slice A (lay n t []).length c) ∧ w5.cell? ⟨bs, 1, none⟩ = some (.int .i64 (((lay n t []).length : Int) - 1)) := by simp [World.cell?, hs5]
    obtain ⟨x0, x1⟩ : w5.cell? ⟨w.heap.size, 0, none⟩ = some (.slice none 0 0) ∧ w5.cell? ⟨w.heap.size, 1, none⟩ = some (.int .i64 0) := by simp [World.cell?, hb5]
    have f0 : w5.frozen? ⟨w.heap.size, 0, none⟩ = false := by simp [World.frozen?, hb5]
    have f1 : w5.frozen? ⟨w.heap.size, 1, none⟩ = false := by simp [World.frozen?, hb5]
    clear y1 yf z0
    go_wp2
    have r := heap_setCell_same _ w.heap.size 1 _ _ (.int .i64 (((lay n t []).length : Int) - 1)) (heap_setCell_same w5 w.heap.size 0 _ _ (.slice A (lay n t []).length c) hb5)
    have ho6 : ∀ x, x ≠ w.heap.size → ((w5.setCell ⟨w.heap.size, 0, none⟩ (.slice A (lay n t []).length c)).setCell ⟨w.heap.size, 1, none⟩ (.int .i64 (((lay n t []).length : Int) - 1))).heap[x]? = w5.heap[x]? := fun x hx => (heap_setCell_other _ ⟨w.heap.size, 1, none⟩ x _ hx).trans (heap_setCell_other _ ⟨w.heap.size, 0, none⟩ x _ hx)
    have hB6 := (HB5.out.setCell (p := ⟨w.heap.size, 0, none⟩) (Nat.le_refl _) (.slice A (lay n t []).length c)).setCell (p := ⟨w.heap.size, 1, none⟩) (Nat.le_refl _) (.int .i64 (((lay n t []).length : Int) - 1))
    generalize (w5.setCell ⟨w.heap.size, 0, none⟩ (.slice A (lay n t []).length c)).setCell ⟨w.heap.size, 1, none⟩ (.int .i64 (((lay n t []).length : Int) - 1)) = W at r ho6 hB6 ⊢
    have r0 : W.cell? ⟨w.heap.size, 0, none⟩ = some (.slice A (lay n t []).length c) := by simp [World.cell?, r]
    have r1 : W.cell? ⟨w.heap.size, 1, none⟩ = some (.int .i64 (((lay n t []).length : Int) - 1)) := by simp [World.cell?, r]
    have key : ∀ {e : TypeId} {k : Nat} {u : Value} {m : Nat} {xs : List Value}, w4.ownsRow w.heap.size e k u m xs → e ≠ 27 → W.ownsRow w.heap.size e k u m xs := fun ho h1 => by
      refine own_keep ho fun x hx => (ho6 x fun e => ?_).trans (ho5 x fun e => ?_)
      · subst e; exact own_ne ho hb4 h1 hx
      · subst e; exact own_ne ho HSV.out.s h1 hx
    exact bodyPost_ret (v := .agg #[.slice A (lay n t []).length c, .int .i64 (((lay n t []).length : Int) - 1)]) (by simp [results, Try.results37, go_sem, r0, r1]) rfl ⟨_, rfl, by rw [hl]; exact ⟨A, c, hn, rfl, key HSV.out.o (by decide), HSV.out.len, fun i h x h1 h2 => ⟨key (HSV.out.at_ i h x h1 h2).k (by decide), key (HSV.out.at_ i h x h1 h2).v (by decide), key (HSV.out.at_ i h x h1 h2).c (by decide)⟩⟩, hB6⟩
end Go.Proofs.Ytkpjkglheegmgaa
/- How deep a tree stands: the walk of depth. Conditions: a tree that is read in memory. -/
namespace Go.Proofs.Ytkpjkglheegmgaa
open Go.RowKit
set_option linter.unusedSimpArgs false
set_option linter.unusedVariables false

theorem RdN.leaf : ∀ {n : Nat} {w : World} {g : Nat} {t : Tr} {F : List Nat}, RdN n w g t F → (t.cs.isEmpty = true ↔ n = 0)
  | 0, _, _, _, _, h => by rw [h.2.1]; simp
  | n + 1, _, _, t, _, h => by
    obtain ⟨_, _, _, _, hc, _⟩ := h
    cases hx : t.cs with
    | nil => exact absurd hx hc
    | cons _ _ => simp

set_option maxRecDepth 100000 in
set_option maxHeartbeats 1000000 in
theorem depth_any (n : Nat) (t : Tr) (g : Nat) (F : List Nat) (w : World) (hr : RdN n w g t F) (hn : n ≤ 1000000) :
    Calls Try.prog 30 #[ptr g] w fun e w' => e = .returned (.int .i64 (if t.ks.length = 0 then 0 else ((n : Int) + 1))) ∧ w' = w := by
  obtain ⟨gs, h, hb⟩ := hr.node
  obtain ⟨c0, _, _⟩ := hb.cells
  have hkc := hb.k.cap
  have hkl := hb.k.le
  have HR := Lib.hid hr
  clear hr hb
  by_cases h0 : t.ks.length = 0
  · rw [if_pos h0]
    have h0i : (t.ks.length : Int) = 0 := by omega
    go_enter Try.func30, Try.ntmps30
    go_wp2
    go_ret
    exact ⟨rfl, rfl⟩
  · rw [if_neg h0]
    have h0b : ((t.ks.length : Int) == 0) = false := by rw [beq_eq_false_iff_ne]; omega
    go_enter Try.func30, Try.ntmps30
    go_wp2
    clear c0 h0
    go_loop [0, 3] (fun b d => ∃ (m g' : Nat) (t' : Tr) (F' : List Nat), b = ptr g' ∧ d = .int .i64 ((n : Int) + 1 - m) ∧ m ≤ n ∧ RdN m w g' t' F') (fun _ d => n + 1 - (intOf d).toNat)
    case atStart => exact ⟨n, g, t, F, rfl, by congr 1; omega, Nat.le_refl _, HR.out⟩
    case round =>
      obtain ⟨m, g', t', F', rfl, rfl, hm, hr⟩ := hrel
      obtain ⟨gs', h', hb⟩ := hr.node
      have HI := Lib.hid (isLeaf_any g' t' gs' h' w hb)
      cases m with
      | zero =>
        rw [hr.leaf.2 rfl] at HI
        clear hr hb
        go_wp2_with (first | (go_at_call 47; (with_reducible refine HI.out.mono ?_); rintro e w1 ⟨rfl, rfl⟩))
        go_ret
        exact ⟨by simp, rfl⟩
      | succ m =>
        have hne : t'.cs.isEmpty = false := by
          cases hx : t'.cs.isEmpty with
          | false => rfl
          | true => have := hr.leaf.1 hx; omega
        rw [hne] at HI
        obtain ⟨gs2, Fs, h2, _, hc, hb2, hl, hk⟩ := hr.inner
        have hcl : 0 < t'.cs.length := List.length_pos_iff.2 hc
        have hgl : 0 < gs2.length := by rw [hb2.n]; exact hcl
        obtain ⟨ad, ha, q0⟩ := hb2.c.at_ (ptrs_at hgl)
        rw [add_zero] at q0
        obtain ⟨_, _, c2⟩ := hb2.cells
        rw [ha] at c2
        have hkid := hk 0 gs2[0] t'.cs[0] Fs[0] (List.getElem?_eq_getElem hgl) (List.getElem?_eq_getElem hcl) (List.getElem?_eq_getElem (by omega))
        obtain ⟨tk, fk, hkid'⟩ : ∃ tk fk, RdN m w gs2[0] tk fk := ⟨_, _, hkid⟩
        have HK := Lib.hid hkid'
        clear hkid'
        have hcli : (0 : Int) < (t'.cs.length : Int) := by omega
        clear hr hb hb2 hk hl ha hkid hc
        generalize gs2[0] = gk at *
        go_wp2_with (first | (go_at_call 47; (with_reducible refine HI.out.mono ?_); rintro e w1 ⟨rfl, rfl⟩))
        go_round
        case rel => exact ⟨m, gk, _, _, rfl, by go_num, by omega, HK.out⟩
        case measure => simp [intOf]; omega
end Go.Proofs.Ytkpjkglheegmgaa
namespace Go.Proofs.Ytkpjkglheegmgaa
open Go.RowKit
set_option linter.unusedSimpArgs false
set_option linter.unusedVariables false

/-- What stands under a key. -/
def getT : Nat → Tr → Key → Option Key
  | 0, t, k => if k ∈ t.ks then t.vs[pos t.ks k]? else none
  | n + 1, t, k => match t.cs[tow t.ks k]? with
    | none => none
    | some c => getT n c k
theorem RdN.level : ∀ {m m' : Nat} {w : World} {g : Nat} {t t' : Tr} {F F' : List Nat}, RdN m w g t F → RdN m' w g t' F' → m = m' := by
  have len : ∀ {w : World} {g : Nat} {t t' : Tr} {gs gs' : List Nat} {h h' : Hd}, RdB w g t gs h → RdB w g t' gs' h' → h.cA = h'.cA ∧ t.cs.length = t'.cs.length := fun b b' => by
    have e := b.blk.symm.trans b'.blk
    simp at e
    exact ⟨e.2.2.1, e.2.2.2.1⟩
  intro m
  induction m with
  | zero =>
    intro m' w g t t' F F' h h'
    obtain ⟨_, _, b⟩ := h.node
    obtain ⟨_, _, b'⟩ := h'.node
    obtain ⟨_, l⟩ := len b b'
    have h0 := h.2.1
    rw [h0] at l
    have : t'.cs = [] := List.eq_nil_of_length_eq_zero l.symm
    exact (h'.leaf.1 (by rw [this]; rfl)).symm
  | succ m ih =>
    intro m' w g t t' F F' h h'
    obtain ⟨gs, Fs, _, _, hc, b, hl, hk⟩ := h.inner
    have hp : 0 < t.cs.length := List.length_pos_iff.2 hc
    cases m' with
    | zero =>
      obtain ⟨_, _, b'⟩ := h'.node
      have l := (len b b').2
      rw [h'.2.1] at l
      simp at l
      exact absurd l hc
    | succ m' =>
      obtain ⟨gs', Fs', _, _, hc', b', hl', hk'⟩ := h'.inner
      obtain ⟨ec, el⟩ := len b b'
      have hp' : 0 < t'.cs.length := List.length_pos_iff.2 hc'
      have g1 : 0 < gs.length := by rw [b.n]; exact hp
      have g2 : 0 < gs'.length := by rw [b'.n]; exact hp'
      obtain ⟨ad, ea, q⟩ := b.c.at_ (ptrs_at g1)
      have q' := b'.c.cells ad (by rw [← ec]; exact ea) 0 _ (ptrs_at g2)
      rw [q] at q'
      simp at q'
      have k1 := hk 0 gs[0] t.cs[0] Fs[0] (List.getElem?_eq_getElem g1) (List.getElem?_eq_getElem hp) (List.getElem?_eq_getElem (by omega))
      have k2 := hk' 0 gs'[0] t'.cs[0] Fs'[0] (List.getElem?_eq_getElem g2) (List.getElem?_eq_getElem hp') (List.getElem?_eq_getElem (by omega))
      rw [q'] at k1
      rw [ih k1 k2]
open Classical in
/-- How far above the leaves a node stands. -/
noncomputable def lvl (w : World) : Value → Nat
  | .pointer (some a) => if h : ∃ m t F, RdN m w a.block t F then Classical.choose h else 0
  | _ => 0
theorem lvl_eq {m : Nat} {w : World} {g : Nat} {t : Tr} {F : List Nat} (h : RdN m w g t F) : lvl w (ptr g) = m := by
  have e : ∃ m t F, RdN m w g t F := ⟨m, t, F, h⟩
  unfold lvl
  simp only
  rw [dif_pos e]
  obtain ⟨_, _, h2⟩ := Classical.choose_spec e
  exact h2.level h

set_option maxRecDepth 100000 in
set_option maxHeartbeats 1000000 in
theorem get_any (n a b : Nat) (lo hi : Bd) (t : Tr) (g : Nat) (F : List Nat) (k : Key) (w : World) (ho : Ok n a b lo hi t) (hb4 : b ≤ 6) (hr : RdN n w g t F) :
    Calls Try.prog 31 #[ptr g, .string k.s] w fun e w' => e = .returned (.tuple #[.string ((getT n t k).elim ⟨#[]⟩ Key.s), .bool (getT n t k).isSome]) ∧ Below w.heap.size w w' := by
  have HR := Lib.hid hr
  have HO := Lib.hid ho
  clear hr ho
  go_enter Try.func31, Try.ntmps31
  go_wp2
  go_loopw [0] (fun b wr => ∃ (m g' a' b' : Nat) (lo' hi' : Bd) (t' : Tr) (F' : List Nat), b = ptr g' ∧ b' ≤ 6 ∧ RdN m wr g' t' F' ∧ Ok m a' b' lo' hi' t' ∧ getT m t' k = getT n t k ∧ Below w.heap.size w wr) (fun b wr => lvl wr b)
  case atStart => exact ⟨n, g, a, b, lo, hi, t, F, rfl, hb4, HR.out, HO.out, rfl, Below.refl _ _⟩
  case round =>
    obtain ⟨m, g', a', b', lo', hi', t', F', rfl, hb', hr, ho, he, hB⟩ := hrel
    obtain ⟨gs', h', hb⟩ := hr.node
    have hlen := ho.len
    have HI := Lib.hid (isLeaf_any g' t' gs' h' wr hb)
    have HBW := Lib.hid hB
    have HE := Lib.hid he
    clear he hB
    cases m with
    | zero =>
      rw [hr.leaf.2 rfl] at HI
      obtain ⟨c0, c1, _⟩ := hb.cells
      have hvs : t'.vs.length = t'.ks.length := ho.shape
      have HS := Lib.hid (search_any h'.kA t'.ks.length h'.kc t'.ks k wr rfl hb.k ho.asc (by omega))
      by_cases hk : k ∈ t'.ks
      · rw [decide_eq_true hk] at HS
        obtain ⟨hp, _⟩ := (mem_pos ho.asc).1 hk
        have hpv : pos t'.ks k < t'.vs.length := by omega
        obtain ⟨ad, ha, q0⟩ := hb.v.at_ (strs_at hpv)
        rw [ha] at c1
        have hg : getT n t k = some t'.vs[pos t'.ks k] := by rw [← HE.out, getT, if_pos hk, List.getElem?_eq_getElem hpv]
        have HG := Lib.hid hg
        clear hg
        have hpi : ((pos t'.ks k : Nat) : Int) < (t'.vs.length : Int) := by omega
        clear hk hr hb ho ha hvs
        generalize t'.vs[pos t'.ks k] = v at *
        generalize pos t'.ks k = j at *
        go_wp2_with (first | (go_at_call 47; (with_reducible refine HI.out.mono ?_); rintro e w1 ⟨rfl, rfl⟩) | (go_at_call 49; (with_reducible refine HS.out.mono ?_); rintro e w1 ⟨rfl, rfl⟩))
        go_ret2
        exact ⟨by rw [HG.out]; rfl, HBW.out⟩
      · rw [decide_eq_false hk] at HS
        have hg : getT n t k = none := by rw [← HE.out, getT, if_neg hk]
        have HG := Lib.hid hg
        clear hg hk hr hb ho hvs
        go_wp2_with (first | (go_at_call 47; (with_reducible refine HI.out.mono ?_); rintro e w1 ⟨rfl, rfl⟩) | (go_at_call 49; (with_reducible refine HS.out.mono ?_); rintro e w1 ⟨rfl, rfl⟩))
        go_ret2
        exact ⟨by rw [HG.out]; rfl, HBW.out⟩
    | succ m =>
      have hne : t'.cs.isEmpty = false := by
        cases hx : t'.cs.isEmpty with
        | false => rfl
        | true => have := hr.leaf.1 hx; omega
      rw [hne] at HI
      obtain ⟨gs2, Fs, h2, _, hc, hb2, hl, hk⟩ := hr.inner
      have hti := tow_le t'.ks k
      obtain ⟨c, e, _, hco⟩ := ho.about hti
      have hic : tow t'.ks k < t'.cs.length := (List.getElem?_eq_some_iff.1 e).1
      have hgl : tow t'.ks k < gs2.length := by rw [hb2.n]; exact hic
      obtain ⟨ad, ha, q0⟩ := hb2.c.at_ (ptrs_at hgl)
      obtain ⟨_, _, c2⟩ := hb2.cells
      rw [ha] at c2
      have hkid := hk _ gs2[tow t'.ks k] c Fs[tow t'.ks k] (List.getElem?_eq_getElem hgl) e (List.getElem?_eq_getElem (by omega))
      have HT := Lib.hid (toward_any g' t' gs2 h2 k wr.drew (hb2.below (Below.refl _ _).drew) ho.asc (by omega))
      have HE2 := Lib.hid (show getT m c k = getT n t k by rw [← HE.out, getT, e])
      have hlv := lvl_eq hr
      obtain ⟨fk, hkid'⟩ : ∃ fk, RdN m wr gs2[tow t'.ks k] c fk := ⟨_, hkid⟩
      have HK := Lib.hid hkid'
      have HCO := Lib.hid hco
      have HLV := Lib.hid hlv
      clear hr hb hb2 hk ha hkid hkid' hc hco hlv HE e ho
      generalize gs2[tow t'.ks k] = gk at *
      generalize tow t'.ks k = j at *
      have hji : (j : Int) < (t'.cs.length : Int) := by omega
      go_upto_region 2 with (first | (go_at_call 47; (with_reducible refine HI.out.mono ?_); rintro e w1 ⟨rfl, rfl⟩))
      go_region_law (first | (go_simp; go_at_call 48; (with_reducible refine HT.out.mono ?_); rintro e w1 ⟨rfl, rfl⟩))
      all_goals try go_simp
      all_goals go_roundw
      case rel => exact ⟨_, _, _, _, _, _, _, _, _, _, _, _, _, ⟨m, gk, _, _, _, _, c, fk, rfl, (by omega), HK.out.below (Below.refl _ _).drew, HCO.out, HE2.out, HBW.out.drew⟩, rfl⟩
      case measure =>
        show lvl wr.drew (ptr gk) < lvl wr (ptr g')
        rw [HLV.out, lvl_eq (HK.out.below (Below.refl _ _).drew)]
        omega
      case rel => exact ⟨_, _, _, _, _, _, _, _, _, _, _, _, _, ⟨m, gk, _, _, _, _, c, fk, rfl, (by omega), HK.out.below (Below.refl _ _).drew, HCO.out, HE2.out, HBW.out.drew⟩, rfl⟩
      case measure =>
        show lvl wr.drew (ptr gk) < lvl wr (ptr g')
        rw [HLV.out, lvl_eq (HK.out.below (Below.refl _ _).drew)]
        omega
end Go.Proofs.Ytkpjkglheegmgaa
