/- A statement written over: the walk of SpoilStmt. Conditions: a statement whose lists lie from the first places of blocks of their own kinds. -/
import Derived.Test.YtipcacplphidhaaGreatFe
import Derived.Test.YtipcacplphidhaaGreatJc
/- Lists of a statement's copy and where they lie: each from the first place of a block of its own kind. Conditions: none. -/
namespace Go.Proofs.YtipcacplphidhaaGreat.Sy
open Go.RowKit
set_option linter.unusedSimpArgs false
set_option linter.unusedVariables false

/-- k things at A, of sz cells each, from the first place of a block of such things; of each Q. -/
def ShL (T : TypeId) (sz : Nat) (S : Nat → Prop) (w : World) (A : Option Addr) (k : Nat) (Q : Array Value → Nat → Prop) : Prop :=
  k = 0 ∨ ∃ b cs, A = some ⟨b, 0, none⟩ ∧ S b ∧ w.heap[b]? = some (.cells cs T (0, 0)) ∧ k * sz ≤ cs.size ∧ k ≤ 9223372036854775807 ∧ ∀ j, j < k → Q cs j
theorem ShL.map {T : TypeId} {sz k : Nat} {S S' : Nat → Prop} {w w' : World} {A : Option Addr} {Q Q' : Array Value → Nat → Prop} (h : ShL T sz S w A k Q) (hb : ∀ b cs, S b → w.heap[b]? = some (.cells cs T (0, 0)) → S' b ∧ w'.heap[b]? = some (.cells cs T (0, 0)))
    (hq : ∀ cs j, Q cs j → Q' cs j) : ShL T sz S' w' A k Q' := by
  rcases h with h | ⟨b, cs, e, hs, hc, hz, hm, h⟩
  · exact .inl h
  · obtain ⟨h1, h2⟩ := hb b cs hs hc
    exact .inr ⟨b, cs, e, h1, h2, hz, hm, fun j hj => hq cs j (h j hj)⟩
/-- Expressions, n parts deep. -/
def ShE : Nat → (Nat → Prop) → World → Option Addr → Nat → Prop
  | 0, _, _, _, k => k = 0
  | n + 1, S, w, A, k => ShL 62 7 S w A k fun cs j => ∃ a k' c', cs[j * 7 + 6]? = some (.slice a k' c') ∧ ShE n S w a k'
theorem ShE.map : ∀ {n : Nat} {S S' : Nat → Prop} {w w' : World} {A : Option Addr} {k : Nat}, ShE n S w A k → (∀ b o, S b → w.heap[b]? = some o → S' b ∧ w'.heap[b]? = some o) → ShE n S' w' A k
  | 0, _, _, _, _, _, _, h, _ => h
  | n + 1, _, _, _, _, _, _, h, hb => ShL.map h (fun b cs hs hc => hb b _ hs hc) fun cs j ⟨a, k', c', h1, h2⟩ => ⟨a, k', c', h1, h2.map hb⟩
theorem ShE.nil (n : Nat) (S : Nat → Prop) (w : World) (A : Option Addr) : ShE n S w A 0 := by
  cases n with
  | zero => rfl
  | succ n => exact .inl rfl
def ShR (n : Nat) (S : Nat → Prop) (w : World) (A : Option Addr) (k : Nat) : Prop := ShL 28 1 S w A k fun cs j => ∃ a k' c', cs[j]? = some (.slice a k' c') ∧ ShE n S w a k'
def ShS (n : Nat) (S : Nat → Prop) (w : World) (A : Option Addr) (k : Nat) : Prop := ShL 64 8 S w A k fun cs j => ∃ a k' c', cs[j * 8 + 7]? = some (.slice a k' c') ∧ ShE n S w a k'
def ShC (S : Nat → Prop) (w : World) (A : Option Addr) (k : Nat) : Prop := ShL 48 3 S w A k fun _ _ => True
def ShO (S : Nat → Prop) (w : World) (A : Option Addr) (k : Nat) : Prop := ShL 85 2 S w A k fun _ _ => True

/-- A kind of things, and how lists of them lie. -/
structure Zd (τ : Type) where
  K : Kd τ
  Z : (Nat → Prop) → World → Option Addr → Nat → Prop
structure Zd.Ok {τ : Type} (Z : Zd τ) : Prop where
  ok : Z.K.Ok
  map : ∀ (S S' : Nat → Prop) (w w' : World) (A : Option Addr) (k : Nat), Z.Z S w A k → (∀ b o, S b → w.heap[b]? = some o → S' b ∧ w'.heap[b]? = some o) → Z.Z S' w' A k
def ZE (n : Nat) : Zd (Ar n) := ⟨KE n, ShE n⟩
def ZR (n : Nat) : Zd (List (Ar n)) := ⟨KR n, ShR n⟩
def ZS (n : Nat) : Zd (Sx n) := ⟨KS n, ShS n⟩
def ZC : Zd Cl := ⟨KC, ShC⟩
def ZO : Zd Od := ⟨KO, ShO⟩
theorem ZE_ok (n : Nat) : (ZE n).Ok := ⟨KE_ok n, fun _ _ _ _ _ _ h hb => ShE.map h hb⟩
theorem ZR_ok (n : Nat) : (ZR n).Ok := ⟨KR_ok n, fun _ _ _ _ _ _ h hb => ShL.map h (fun b cs hs hc => hb b _ hs hc) fun cs j ⟨a, k', c', h1, h2⟩ => ⟨a, k', c', h1, h2.map hb⟩⟩
theorem ZS_ok (n : Nat) : (ZS n).Ok := ⟨KS_ok n, fun _ _ _ _ _ _ h hb => ShL.map h (fun b cs hs hc => hb b _ hs hc) fun cs j ⟨a, k', c', h1, h2⟩ => ⟨a, k', c', h1, h2.map hb⟩⟩
theorem ZC_ok : ZC.Ok := ⟨KC_ok, fun _ _ _ _ _ _ h hb => ShL.map h (fun b cs hs hc => hb b _ hs hc) fun _ _ h => h⟩
theorem ZO_ok : ZO.Ok := ⟨KO_ok, fun _ _ _ _ _ _ h hb => ShL.map h (fun b cs hs hc => hb b _ hs hc) fun _ _ h => h⟩
/-- The slice at A reads as l, and lies so. -/
def RdZ {τ : Type} (Z : Zd τ) (S : Nat → Prop) (w : World) (A : Option Addr) (c : Nat) (l : List τ) : Prop := RdK Z.K S w A c l ∧ Z.Z S w A l.length
theorem heap_some {w : World} {b : Nat} {o : Obj} (h : w.heap[b]? = some o) : b < w.heap.size := (Array.getElem?_eq_some_iff.1 h).1
theorem RdZ.mono {τ : Type} {Z : Zd τ} {S S' : Nat → Prop} {w : World} {A : Option Addr} {c : Nat} {l : List τ} (ok : Z.Ok) (h : RdZ Z S w A c l) (hk : ∀ b, S b → b < w.heap.size → S' b) : RdZ Z S' w A c l :=
  ⟨h.1.mono ok.ok hk, ok.map _ _ _ _ _ _ h.2 fun b o hs ho => ⟨hk b hs (heap_some ho), ho⟩⟩
theorem RdZ.below {τ : Type} {Z : Zd τ} {S : Nat → Prop} {w w' : World} {A : Option Addr} {c : Nat} {l : List τ} (ok : Z.Ok) (h : RdZ Z S w A c l) (hb : Below w.heap.size w w') : RdZ Z S w' A c l :=
  ⟨h.1.below ok.ok hb, ok.map _ _ _ _ _ _ h.2 fun b o hs ho => ⟨hs, (hb.block b (heap_some ho)).trans ho⟩⟩
theorem RdZ.out {τ : Type} {Z : Zd τ} {S : Nat → Prop} {w w' : World} {A : Option Addr} {c : Nat} {l : List τ} (ok : Z.Ok) (h : RdZ Z S w A c l) (hb : Out S w w') : RdZ Z S w' A c l :=
  ⟨h.1.out ok.ok hb, ok.map _ _ _ _ _ _ h.2 fun b o hs ho => ⟨hs, (hb b hs).trans ho⟩⟩

/-- Expressions whose Args lie so. -/
def KE2 (n : Nat) : Kd (Ar n) := { k := 7, b := 96, cs := fun y a c => y.e.cs a c, dp := fun S w y a c => RdZ (ZE (n - 1)) S w a c y.e.l }
def KR2 (n : Nat) : Kd (List (Ar n)) := { k := 1, b := 24, cs := fun r a c => [.slice a r.length c], dp := fun S w r a c => RdZ (ZE n) S w a c r }
def KS2 (n : Nat) : Kd (Sx n) := { k := 8, b := 112, cs := fun s a c => .string s.m :: s.x.cs a c, dp := fun S w s a c => RdZ (ZE n) S w a c s.x.l }
theorem dpZ {τ : Type} {Z : Zd τ} (ok : Z.Ok) {S : Nat → Prop} {w w' : World} {A : Option Addr} {c : Nat} {l : List τ} (h : RdZ Z S w A c l) (hk : ∀ b, S b → b < w.heap.size → w'.heap[b]? = w.heap[b]?) : RdZ Z S w' A c l :=
  ⟨h.1.kept ok.ok hk, ok.map _ _ _ _ _ _ h.2 fun b o hs ho => ⟨hs, (hk b hs (heap_some ho)).trans ho⟩⟩
theorem KE2_ok (n : Nat) : (KE2 n).Ok := {
  len := fun _ _ _ => rfl
  pos := Nat.zero_lt_succ 6
  one := fun y a c => ExN.cs_one y.e a c
  kept := fun S w w' y a c h hk => dpZ (ZE_ok _) h hk
  mono := fun S S' w y a c h hk => RdZ.mono (ZE_ok _) h hk }
theorem KR2_ok (n : Nat) : (KR2 n).Ok := {
  len := fun _ _ _ => rfl
  pos := Nat.zero_lt_succ _
  one := fun y a c u hu => by simp [KR2] at hu; subst hu; rfl
  kept := fun S w w' y a c h hk => dpZ (ZE_ok _) h hk
  mono := fun S S' w y a c h hk => RdZ.mono (ZE_ok _) h hk }
theorem KS2_ok (n : Nat) : (KS2 n).Ok := {
  len := fun _ _ _ => rfl
  pos := Nat.zero_lt_succ 7
  one := fun y a c u hu => by
    simp [KS2, ExN.cs] at hu
    rcases hu with rfl | rfl | rfl | rfl | rfl | rfl | rfl | rfl <;> rfl
  kept := fun S w w' y a c h hk => dpZ (ZE_ok _) h hk
  mono := fun S S' w y a c h hk => RdZ.mono (ZE_ok _) h hk }
theorem RdK.weak {τ : Type} {K K' : Kd τ} {S : Nat → Prop} {w : World} {A : Option Addr} {c : Nat} {l : List τ} (hk : K'.k = K.k) (hb : K'.b = K.b) (hc : ∀ y a c, K'.cs y a c = K.cs y a c) (hd : ∀ S w y a c, K.dp S w y a c → K'.dp S w y a c) (h : RdK K S w A c l) : RdK K' S w A c l := by
  refine ⟨h.1, by rw [hb]; exact h.2.1, fun ad e j y hy => ?_⟩
  obtain ⟨hs, a', c', h1, h2⟩ := h.2.2 ad e j y hy
  exact ⟨hs, a', c', fun i v hv => by rw [hk]; rw [hc] at hv; exact h1 i v hv, hd _ _ _ _ _ h2⟩
/-- How a list of the call's own lies. -/
theorem own_sh {τ : Type} {K : Kd τ} (ok : K.Ok) {T base : Nat} {w : World} {v : Value} {ps : List (Gh τ)} (h : OwnG K T base w v ps) {Q : Array Value → Nat → Prop}
    (hQ : ∀ (p : Gh τ) (cs : Array Value) (j : Nat), K.dp (fun b => base ≤ b) w p.1 p.2.1 p.2.2 → (∀ (i : Nat) (u : Value), (K.cs p.1 p.2.1 p.2.2)[i]? = some u → cs[j * K.k + i]? = some u) → Q cs j) {A : Option Addr} {n c : Nat} (hv : v = .slice A n c) : ShL T K.k (fun b => base ≤ b) w A ps.length Q := by
  have hd := h.2
  rcases h.1.2 with ⟨_, h0⟩ | ⟨g, cap, cur, e, hbg, hg, hc, hm, hs, ht⟩
  · exact .inl h0
  · rw [hv] at e
    injection e with e1 e2 e3
    have hlen : (K.row ps).length = ps.length * K.k := flat_len (f := fun p : Gh τ => K.cs p.1 p.2.1 p.2.2) (fun p => ok.len p.1 p.2.1 p.2.2) ps
    refine .inr ⟨g, cur, e1, hbg, hg, by rw [hs]; exact Nat.mul_le_mul_right _ hc, by unfold maxLen at hm; omega, fun j hj => ?_⟩
    have hp : ps[j]? = some ps[j] := List.getElem?_eq_getElem hj
    refine hQ ps[j] cur j (ok.mono _ _ _ _ _ _ (hd _ (List.getElem_mem hj)) fun b hb _ => hb.1) fun i u hu => ?_
    have hi : i < K.k := by rw [← ok.len ps[j].1 ps[j].2.1 ps[j].2.2]; exact (List.getElem?_eq_some_iff.1 hu).1
    have hf : (K.row ps)[j * K.k + i]? = (K.cs ps[j].1 ps[j].2.1 ps[j].2.2)[i]? := flat_get (f := fun p : Gh τ => K.cs p.1 p.2.1 p.2.2) (fun p => ok.len p.1 p.2.1 p.2.2) ps j i ps[j] hp hi
    have h1 : (K.row ps)[j * K.k + i]? = some u := hf.trans hu
    rw [← ht] at h1
    rw [List.getElem?_take] at h1
    split at h1
    · rw [Array.getElem?_toList] at h1; exact h1
    · cases h1
theorem readE {n base : Nat} {w : World} {v : Value} {l : List (Ar n)} (h : Owned (KE2 n) 62 base w v l) (hb : l.length * 96 ≤ 140737488355328) : ∃ A c, v = .slice A l.length c ∧ RdZ (ZE n) (fun b => base ≤ b) w A c l := by
  obtain ⟨ps, rfl, h⟩ := h
  rw [List.length_map] at hb ⊢
  obtain ⟨A, c, e, hr⟩ := h.read (KE2_ok n) hb
  refine ⟨A, c, e, RdK.weak (K := KE2 n) (K' := KE n) (KE_k n) (KE_b n) (fun y a c => KE_cs y a c) (fun S w y a c h => by rw [KE_dp]; exact (show RdZ (ZE (n - 1)) S w a c y.e.l from h).1) hr, ?_⟩
  rw [List.length_map]
  match n, ps, h with
  | 0, [], _ => exact rfl
  | 0, p :: _, _ => exact Empty.elim p.1
  | n + 1, ps, h => exact own_sh (KE2_ok (n + 1)) h (fun p cs j hd hc => ⟨p.2.1, _, p.2.2, hc 6 _ rfl, hd.2⟩) e
theorem readR {n base : Nat} {w : World} {v : Value} {l : List (List (Ar n))} (h : Owned (KR2 n) 28 base w v l) (hb : l.length * 24 ≤ 140737488355328) : ∃ A c, v = .slice A l.length c ∧ RdZ (ZR n) (fun b => base ≤ b) w A c l := by
  obtain ⟨ps, rfl, h⟩ := h
  rw [List.length_map] at hb ⊢
  obtain ⟨A, c, e, hr⟩ := h.read (KR2_ok n) hb
  refine ⟨A, c, e, RdK.weak (K := KR2 n) (K' := KR n) rfl rfl (fun y a c => rfl) (fun S w y a c h => (show RdZ (ZE n) S w a c y from h).1) hr, ?_⟩
  rw [List.length_map]
  exact own_sh (KR2_ok n) h (fun p cs j hd hc => ⟨p.2.1, _, p.2.2, by have := hc 0 _ rfl; simpa [KR2] using this, hd.2⟩) e
theorem readS {n base : Nat} {w : World} {v : Value} {l : List (Sx n)} (h : Owned (KS2 n) 64 base w v l) (hb : l.length * 112 ≤ 140737488355328) : ∃ A c, v = .slice A l.length c ∧ RdZ (ZS n) (fun b => base ≤ b) w A c l := by
  obtain ⟨ps, rfl, h⟩ := h
  rw [List.length_map] at hb ⊢
  obtain ⟨A, c, e, hr⟩ := h.read (KS2_ok n) hb
  refine ⟨A, c, e, RdK.weak (K := KS2 n) (K' := KS n) rfl rfl (fun y a c => rfl) (fun S w y a c h => (show RdZ (ZE n) S w a c y.x.l from h).1) hr, ?_⟩
  rw [List.length_map]
  exact own_sh (KS2_ok n) h (fun p cs j hd hc => ⟨p.2.1, _, p.2.2, hc 7 _ rfl, hd.2⟩) e
theorem readC {base : Nat} {w : World} {v : Value} {l : List Cl} (h : Owned KC 48 base w v l) (hb : l.length * 32 ≤ 140737488355328) : ∃ A c, v = .slice A l.length c ∧ RdZ ZC (fun b => base ≤ b) w A c l := by
  obtain ⟨ps, rfl, h⟩ := h
  rw [List.length_map] at hb ⊢
  obtain ⟨A, c, e, hr⟩ := h.read KC_ok hb
  refine ⟨A, c, e, hr, ?_⟩
  rw [List.length_map]
  exact own_sh KC_ok h (fun p cs j hd hc => trivial) e
theorem readO {base : Nat} {w : World} {v : Value} {l : List Od} (h : Owned KO 85 base w v l) (hb : l.length * 16 ≤ 140737488355328) : ∃ A c, v = .slice A l.length c ∧ RdZ ZO (fun b => base ≤ b) w A c l := by
  obtain ⟨ps, rfl, h⟩ := h
  rw [List.length_map] at hb ⊢
  obtain ⟨A, c, e, hr⟩ := h.read KO_ok hb
  refine ⟨A, c, e, hr, ?_⟩
  rw [List.length_map]
  exact own_sh KO_ok h (fun p cs j hd hc => trivial) e
/-- A statement's lists, read and lying so. -/
structure RdStZ {n : Nat} (P : Nat → Prop) (w : World) (x : St n) (h : Hs) : Prop where
  C : RdZ ZC P w h.C.a h.C.c x.cols
  R : RdZ (ZR n) P w h.R.a h.R.c x.rows
  S : RdZ (ZS n) P w h.S.a h.S.c x.sets
  I : RdZ (ZE n) P w h.I.a h.I.c x.items
  O : RdZ (ZE n) P w h.O.a h.O.c x.on
  W : RdZ (ZE n) P w h.W.a h.W.c x.wh
  G : RdZ (ZE n) P w h.G.a h.G.c x.gr
  D : RdZ ZO P w h.D.a h.D.c x.ord
theorem RdStZ.mono {n : Nat} {S S' : Nat → Prop} {w : World} {x : St n} {h : Hs} (r : RdStZ S w x h) (hk : ∀ b, S b → b < w.heap.size → S' b) : RdStZ S' w x h :=
  ⟨r.C.mono ZC_ok hk, r.R.mono (ZR_ok n) hk, r.S.mono (ZS_ok n) hk, r.I.mono (ZE_ok n) hk, r.O.mono (ZE_ok n) hk, r.W.mono (ZE_ok n) hk, r.G.mono (ZE_ok n) hk, r.D.mono ZO_ok hk⟩
theorem RdStZ.below {n : Nat} {S : Nat → Prop} {w w' : World} {x : St n} {h : Hs} (r : RdStZ S w x h) (hb : Below w.heap.size w w') : RdStZ S w' x h :=
  ⟨r.C.below ZC_ok hb, r.R.below (ZR_ok n) hb, r.S.below (ZS_ok n) hb, r.I.below (ZE_ok n) hb, r.O.below (ZE_ok n) hb, r.W.below (ZE_ok n) hb, r.G.below (ZE_ok n) hb, r.D.below ZO_ok hb⟩
theorem RdStZ.rd {n : Nat} {S : Nat → Prop} {w : World} {x : St n} {h : Hs} (r : RdStZ S w x h) : RdSt S w x h := ⟨r.C.1, r.R.1, r.S.1, r.I.1, r.O.1, r.W.1, r.G.1, r.D.1⟩
end Go.Proofs.YtipcacplphidhaaGreat.Sy
/- What writing over a statement's copy, and a catalog's copy, leaves of memory: plain mathematics. Conditions: none. -/
namespace Go.Proofs.YtipcacplphidhaaGreat.Sy
open Go.RowKit
set_option linter.unusedSimpArgs false
set_option linter.unusedVariables false

/-- What a block of such things keeps. -/
def Zc (T : TypeId) (cs cs' : Array Value) : Prop :=
  cs'.size = cs.size ∧ (T = 62 → ∀ (j : Nat) (v : Value), cs[j * 7 + 6]? = some v → cs'[j * 7 + 6]? = some v ∨ cs'[j * 7 + 6]? = some (.slice none 0 0)) ∧
  (T = 64 → ∀ (j : Nat) (v : Value), cs[j * 8 + 7]? = some v → cs'[j * 8 + 7]? = some v ∨ cs'[j * 8 + 7]? = some (.slice none 0 0)) ∧
  (T ≠ 62 → T ≠ 64 → T ≠ 48 → T ≠ 85 → T ≠ 50 → cs' = cs)
theorem Zc.refl (T : TypeId) (cs : Array Value) : Zc T cs cs := ⟨rfl, fun _ _ _ h => .inl h, fun _ _ _ h => .inl h, fun _ _ _ _ _ => rfl⟩
theorem Zc.trans {T : TypeId} {a b c : Array Value} (h : Zc T a b) (k : Zc T b c) : Zc T a c :=
  ⟨k.1.trans h.1, fun hT j v hv => by
    rcases h.2.1 hT j v hv with h1 | h1
    · exact k.2.1 hT j _ h1
    · rcases k.2.1 hT j _ h1 with h2 | h2 <;> exact .inr h2, fun hT j v hv => by
    rcases h.2.2.1 hT j v hv with h1 | h1
    · exact k.2.2.1 hT j _ h1
    · rcases k.2.2.1 hT j _ h1 with h2 | h2 <;> exact .inr h2, fun h1 h2 h3 h4 h5 => (k.2.2.2 h1 h2 h3 h4 h5).trans (h.2.2.2 h1 h2 h3 h4 h5)⟩
/-- Only blocks that S lets by were written over, and so. -/
structure Zst (S : Nat → Prop) (w w' : World) : Prop where
  os : w'.os = w.os
  tape : w'.tape = w.tape
  output : w'.output = w.output
  size : w.heap.size ≤ w'.heap.size
  out : ∀ b, b < w.heap.size → ¬ S b → w'.heap[b]? = w.heap[b]?
  shape : ∀ (b : Nat) (cs : Array Value) (T : TypeId), w.heap[b]? = some (.cells cs T (0, 0)) → ∃ cs', w'.heap[b]? = some (.cells cs' T (0, 0)) ∧ Zc T cs cs'
theorem Zst.refl (S : Nat → Prop) (w : World) : Zst S w w := ⟨rfl, rfl, rfl, Nat.le_refl _, fun _ _ _ => rfl, fun b cs T h => ⟨cs, h, Zc.refl _ _⟩⟩
theorem Zst.trans {S : Nat → Prop} {a b c : World} (h : Zst S a b) (k : Zst S b c) : Zst S a c :=
  ⟨k.os.trans h.os, k.tape.trans h.tape, k.output.trans h.output, Nat.le_trans h.size k.size, fun x hx hs => (k.out x (Nat.lt_of_lt_of_le hx h.size) hs).trans (h.out x hx hs), fun x cs T hc => by
    obtain ⟨cs1, h1, z1⟩ := h.shape x cs T hc
    obtain ⟨cs2, h2, z2⟩ := k.shape x cs1 T h1
    exact ⟨cs2, h2, z1.trans z2⟩⟩
theorem Zst.of_below {S : Nat → Prop} {w w' : World} (h : Below w.heap.size w w') : Zst S w w' :=
  ⟨h.os, h.tape, h.output, h.size, fun b hb _ => h.block b hb, fun b cs T hc => ⟨cs, (h.block b (heap_some hc)).trans hc, Zc.refl _ _⟩⟩
theorem Zst.below {S : Nat → Prop} {w w' : World} {B : Nat} (h : Zst S w w') (hB : B ≤ w.heap.size) (hS : ∀ b, S b → B ≤ b) : Below B w w' :=
  ⟨h.os, h.tape, h.output, h.size, fun b hb => h.out b (by omega) fun hs => by have := hS b hs; omega⟩
theorem zst_cells {S : Nat → Prop} {w : World} {b o : Nat} {cs : Array Value} {T : TypeId} {zs : List Value} (hS : S b) (hb : w.heap[b]? = some (.cells cs T (0, 0))) (hle : o + zs.length ≤ cs.size)
    (hE : T = 62 → ∀ j, o ≤ j * 7 + 6 → j * 7 + 6 < o + zs.length → zs[j * 7 + 6 - o]? = some (.slice none 0 0)) (hSt : T = 64 → ∀ j, o ≤ j * 8 + 7 → j * 8 + 7 < o + zs.length → zs[j * 8 + 7 - o]? = some (.slice none 0 0))
    (hT : T = 62 ∨ T = 64 ∨ T = 48 ∨ T = 85 ∨ T = 50) : Zst S w (w.setCells b o zs) := by
  have hg := grown_setCells b zs o w
  obtain ⟨cs', h1, h2, h3⟩ := heap_setCells b T zs o w cs hb hle
  refine ⟨hg.os, hg.tape, hg.output, hg.size, fun x hx hs => hg.block x hx (fun e => hs (by injection e with e; exact e ▸ hS)), fun x c1 T1 hc => ?_⟩
  by_cases hx : x = b
  · subst hx
    rw [hb] at hc
    injection hc with hc
    injection hc with e1 e2 e3
    subst e1 e2
    refine ⟨cs', h1, h2, fun hT j v hv => ?_, fun hT j v hv => ?_, fun n1 n2 n3 n4 n5 => ?_⟩
    · rw [h3]
      by_cases hc : o ≤ j * 7 + 6 ∧ j * 7 + 6 < o + zs.length
      · rw [if_pos hc]; exact .inr (hE hT j hc.1 hc.2)
      · rw [if_neg hc]; exact .inl hv
    · rw [h3]
      by_cases hc : o ≤ j * 8 + 7 ∧ j * 8 + 7 < o + zs.length
      · rw [if_pos hc]; exact .inr (hSt hT j hc.1 hc.2)
      · rw [if_neg hc]; exact .inl hv
    · rcases hT with h | h | h | h | h
      · exact absurd h n1
      · exact absurd h n2
      · exact absurd h n3
      · exact absurd h n4
      · exact absurd h n5
  · exact ⟨c1, (hg.block x (heap_some hc) (fun e => hx (by injection e))).trans hc, Zc.refl _ _⟩
theorem zst_E {S : Nat → Prop} {w : World} {b i : Nat} {cs : Array Value} (v0 v1 v2 v3 v4 v5 : Value) (hS : S b) (hb : w.heap[b]? = some (.cells cs 62 (0, 0))) (hi : i * 7 + 7 ≤ cs.size) : Zst S w (w.setCells b (i * 7) [v0, v1, v2, v3, v4, v5, .slice none 0 0]) :=
  zst_cells hS hb hi (fun _ j h1 h2 => by
    simp at h2
    obtain rfl : j = i := by omega
    have : j * 7 + 6 - j * 7 = 6 := by omega
    rw [this]; rfl) (fun h => absurd h (by decide)) (.inl rfl)
theorem zst_S {S : Nat → Prop} {w : World} {b i : Nat} {cs : Array Value} (v0 v1 v2 v3 v4 v5 v6 : Value) (hS : S b) (hb : w.heap[b]? = some (.cells cs 64 (0, 0))) (hi : i * 8 + 8 ≤ cs.size) : Zst S w (w.setCells b (i * 8) [v0, v1, v2, v3, v4, v5, v6, .slice none 0 0]) :=
  zst_cells hS hb hi (fun h => absurd h (by decide)) (fun _ j h1 h2 => by
    simp at h2
    obtain rfl : j = i := by omega
    have : j * 8 + 7 - j * 8 = 7 := by omega
    rw [this]; rfl) (.inr (.inl rfl))
theorem zst_C {S : Nat → Prop} {w : World} {b i : Nat} {cs : Array Value} (v0 v1 v2 : Value) (hS : S b) (hb : w.heap[b]? = some (.cells cs 48 (0, 0))) (hi : i * 3 + 3 ≤ cs.size) : Zst S w (w.setCells b (i * 3) [v0, v1, v2]) :=
  zst_cells hS hb hi (fun h => absurd h (by decide)) (fun h => absurd h (by decide)) (.inr (.inr (.inl rfl)))
theorem zst_O {S : Nat → Prop} {w : World} {b i : Nat} {cs : Array Value} (v0 v1 : Value) (hS : S b) (hb : w.heap[b]? = some (.cells cs 85 (0, 0))) (hi : i * 2 + 2 ≤ cs.size) : Zst S w (w.setCells b (i * 2) [v0, v1]) :=
  zst_cells hS hb hi (fun h => absurd h (by decide)) (fun h => absurd h (by decide)) (.inr (.inr (.inr (.inl rfl))))
theorem zst_I {S : Nat → Prop} {w : World} {b i : Nat} {cs : Array Value} (v0 v1 : Value) (hS : S b) (hb : w.heap[b]? = some (.cells cs 50 (0, 0))) (hi : i * 2 + 2 ≤ cs.size) : Zst S w (w.setCells b (i * 2) [v0, v1]) :=
  zst_cells hS hb hi (fun h => absurd h (by decide)) (fun h => absurd h (by decide)) (.inr (.inr (.inr (.inr rfl))))

/-- Lists lie so behind that. -/
theorem ShL.zst {T : TypeId} {sz k : Nat} {S S' : Nat → Prop} {w w' : World} {A : Option Addr} {Q Q' : Array Value → Nat → Prop} (h : ShL T sz S w A k Q) (hz : Zst S' w w') (hq : ∀ cs cs' j, Zc T cs cs' → Q cs j → Q' cs' j) : ShL T sz S w' A k Q' := by
  rcases h with h | ⟨b, cs, e, hs, hc, hk, hm, h⟩
  · exact .inl h
  · obtain ⟨cs', h1, h2⟩ := hz.shape b cs T hc
    exact .inr ⟨b, cs', e, hs, h1, by rw [h2.1]; exact hk, hm, fun j hj => hq cs cs' j h2 (h j hj)⟩
theorem ShE.zst : ∀ {n : Nat} {S S' : Nat → Prop} {w w' : World} {A : Option Addr} {k : Nat}, ShE n S w A k → Zst S' w w' → ShE n S w' A k
  | 0, _, _, _, _, _, _, h, _ => h
  | n + 1, S, _, _, w', _, _, h, hz => ShL.zst h hz fun cs cs' j hc ⟨a, k', c', h1, h2⟩ => by
    rcases hc.2.1 rfl j _ h1 with h3 | h3
    · exact ⟨a, k', c', h3, h2.zst hz⟩
    · exact ⟨none, 0, 0, h3, ShE.nil n S w' none⟩
theorem ShR.zst {n : Nat} {S S' : Nat → Prop} {w w' : World} {A : Option Addr} {k : Nat} (h : ShR n S w A k) (hz : Zst S' w w') : ShR n S w' A k :=
  ShL.zst h hz fun cs cs' j hc ⟨a, k', c', h1, h2⟩ => by
    rw [hc.2.2.2 (by decide) (by decide) (by decide) (by decide) (by decide)]
    exact ⟨a, k', c', h1, h2.zst hz⟩
theorem ShS.zst {n : Nat} {S S' : Nat → Prop} {w w' : World} {A : Option Addr} {k : Nat} (h : ShS n S w A k) (hz : Zst S' w w') : ShS n S w' A k :=
  ShL.zst h hz fun cs cs' j hc ⟨a, k', c', h1, h2⟩ => by
    rcases hc.2.2.1 rfl j _ h1 with h3 | h3
    · exact ⟨a, k', c', h3, h2.zst hz⟩
    · exact ⟨none, 0, 0, h3, ShE.nil n S w' none⟩
theorem ShC.zst {S S' : Nat → Prop} {w w' : World} {A : Option Addr} {k : Nat} (h : ShC S w A k) (hz : Zst S' w w') : ShC S w' A k := ShL.zst h hz fun _ _ _ _ _ => trivial
theorem ShO.zst {S S' : Nat → Prop} {w w' : World} {A : Option Addr} {k : Nat} (h : ShO S w A k) (hz : Zst S' w w') : ShO S w' A k := ShL.zst h hz fun _ _ _ _ _ => trivial

/-- The j-th thing's cell, and that it may be written over. -/
theorem ShL.at_ {T : TypeId} {sz k j : Nat} {S : Nat → Prop} {w : World} {A : Option Addr} {Q : Array Value → Nat → Prop} (h : ShL T sz S w A k Q) (hj : j < k) :
    ∃ b cs, A = some ⟨b, 0, none⟩ ∧ S b ∧ w.heap[b]? = some (.cells cs T (0, 0)) ∧ j * sz + sz ≤ cs.size ∧ Q cs j ∧ k ≤ 9223372036854775807 := by
  rcases h with h | ⟨b, cs, e, hs, hc, hk, hm, h⟩
  · omega
  · have : (j + 1) * sz ≤ k * sz := Nat.mul_le_mul_right _ hj
    rw [Nat.succ_mul] at this
    exact ⟨b, cs, e, hs, hc, by omega, h j hj, hm⟩
theorem cell_in {w : World} {b o : Nat} {cs : Array Value} {T : TypeId} {v : Value} (hb : w.heap[b]? = some (.cells cs T (0, 0))) (hv : cs[o]? = some v) : w.cell? ⟨b, o, none⟩ = some v := by
  simp [World.cell?, hb, hv]
theorem frozen_in {w : World} {b o : Nat} {cs : Array Value} {T : TypeId} (hb : w.heap[b]? = some (.cells cs T (0, 0))) : w.frozen? ⟨b, o, none⟩ = false := by
  simp [World.frozen?, hb]
theorem cell_is {w : World} {b o : Nat} {cs : Array Value} {T : TypeId} (hb : w.heap[b]? = some (.cells cs T (0, 0))) (ho : o < cs.size) : ∃ v, w.cell? ⟨b, o, none⟩ = some v :=
  ⟨cs[o], cell_in hb (Array.getElem?_eq_getElem ho)⟩
end Go.Proofs.YtipcacplphidhaaGreat.Sy
/- Copies of expressions, and where they lie: the walks of CopyExpr and CopyExprs. Conditions: expressions that are read in memory. -/
namespace Go.Proofs.YtipcacplphidhaaGreat.Sy
open Go.RowKit
set_option linter.unusedSimpArgs false
set_option linter.unusedVariables false

theorem OwnG.stepE2 {n T base : Nat} {w w1 w' : World} {o : Obj} {v v' : Value} {ps : List (Gh (Ar n))} {y : Ar n} {a : Option Addr} {c : Nat} (h : OwnG (KE2 n) T base w v ps) (hb : Below w.heap.size w w1) (hbase : base ≤ w.heap.size)
    (hd : RdZ (ZE (n - 1)) (fun b => w.heap.size ≤ b) w1 a c y.e.l) (ho : w'.ownsRow base T 7 v' (ps.length + 1) ((KE2 n).row ps ++ y.e.cs a c)) (hg : (w1.alloc o).grownBy w' v.ownBlock) (hat : v'.ownBlock = v.ownBlock ∨ v'.ownBlock = some (w1.alloc o).heap.size) : OwnG (KE2 n) T base w' v' (ps ++ [(y, a, c)]) :=
  OwnG.step (KE2_ok n) h hb hbase hd ho hg hat
theorem ownE2 {n T base : Nat} {w w1 : World} {o : Obj} {v : Value} {ps : List (Gh (Ar n))} (h : OwnG (KE2 n) T base w v ps) (hb : Below w.heap.size w w1) : (w1.alloc o).ownsRow base T 7 v ps.length ((KE2 n).row ps) :=
  ((h.below (KE2_ok n) hb).below (KE2_ok n) (below1 _ o)).1

/-- What CopyExprs is to answer of l at A. -/
def CopiesZ (n : Nat) (l : List (Ar n)) (w : World) (e : Ending) (w' : World) : Prop := ∃ a c, e = .returned (.slice a l.length c) ∧ RdZ (ZE n) (fun b => w.heap.size ≤ b) w' a c l ∧ Below w.heap.size w w'

set_option maxHeartbeats 1000000 in
set_option maxRecDepth 100000 in
theorem copyExprZ_of {n : Nat} (x : ExN (Ar n)) (a : Option Addr) (c : Nat) (w : World) (hL : ∀ w', Below w.heap.size w w' → Calls Tryz.prog 13 #[.slice a x.l.length c] w' (CopiesZ n x.l w')) :
    Calls Tryz.prog 14 #[x.val a c] w fun e w' => ∃ a' c', e = .returned (x.val a' c') ∧ RdZ (ZE n) (fun b => w.heap.size ≤ b) w' a' c' x.l ∧ Below w.heap.size w w' := by
  obtain ⟨op, ⟨k, v, s, hv⟩, t, m, l⟩ := x
  unfold ExN.val
  have HL := Lib.hid hL
  clear hL
  dsimp only at HL ⊢
  go_enter Tryz.func14, Tryz.ntmps14
  go_wp2_with (go_at_call 13; refine (HL.out _ (below2 _ _ _)).mono ?_; rintro e w1 ⟨a1, c1, rfl, hr, hb⟩; obtain ⟨k0, k1, k2, k3, k4, k5, k6, f6, q0, q1, q2, q3, q4, q5, q6, g0, g1, g2, g3, g4, g5, g6⟩ := two7 hb; have HR := Lib.hid (hr.mono (ZE_ok n) (S' := fun b => w.heap.size + 2 ≤ b) (fun b h _ => (by simp at h; omega))); have HB0 := Lib.hid hb; have HB := Lib.hid (below_of2 hb); clear hr hb)
  refine bodyPost_ret (v := .agg #[.int .i64 op, .int .i64 k, .int .i64 v, .string s, .string t, .string m, .slice a1 l.length c1]) (by simp [results, Tryz.results14, go_sem, k0, k1, k2, k3, k4, k5, k6, q0, q1, q2, q3, q4, q5, q6]) rfl ⟨a1, c1, rfl, ?_, ?_⟩
  · refine (HR.out.out (ZE_ok n) ?_).mono (ZE_ok n) fun b hb _ => (by omega)
    ((repeat (with_reducible refine Out.set ?_ (by simp) _)); with_reducible exact Out.refl _ _)
  · have hB := HB.out
    exact (by (repeat (first | (with_reducible assumption) | (with_reducible exact Below.refl _ _) | (with_reducible refine Below.setCell ?_ (by first | omega | (simp; done) | (simp; omega)) _) | (with_reducible refine Below.alloc ?_ (by first | omega | (simp; done) | (simp; omega)) _) | (with_reducible refine below_drewN ?_ _) | (with_reducible refine Below.drew ?_))))

set_option maxHeartbeats 1000000 in
set_option maxRecDepth 100000 in
theorem copyExprsZ_of {n : Nat} (hE : ∀ (x : Ar n) (a : Option Addr) (c : Nat) (w : World), RdE w (n - 1) a c x.e.l → Calls Tryz.prog 14 #[x.e.val a c] w fun e w' => ∃ a' c', e = .returned (x.e.val a' c') ∧ RdZ (ZE (n - 1)) (fun b => w.heap.size ≤ b) w' a' c' x.e.l ∧ Below w.heap.size w w')
    (A : Option Addr) (k c : Nat) (l : List (Ar n)) (w : World) (hl : k = l.length) (rl : RdE w n A c l) :
    Calls Tryz.prog 13 #[.slice A k c] w (CopiesZ n l w) := by
  have hk : k ≤ 9223372036854775807 := by have := rl.hdr.2; omega
  have hk2 : k * 96 ≤ 140737488355328 := by have := rl.2.1; rw [KE_b] at this; omega
  obtain ⟨i0, hi, hz0, hz1, hz2⟩ := info_parts Tryz.infoE
  have RL := Lib.hid rl
  have HL := Lib.hid hl
  have HE := Lib.hid hE
  clear rl hl hE
  go_enter Tryz.func13, Tryz.ntmps13
  go_wp2_with fail
  go_loopw [3, 4] (fun v i wr => ∃ j : Nat, j ≤ k ∧ i = .int .i64 j ∧ Owned (KE2 n) 62 w.heap.size wr v (l.take j) ∧ Below w.heap.size w wr) (fun _ i _ => k - (intOf i).toNat)
  case atStart => exact ⟨0, by omega, rfl, Owned.nil _ _ _ _, Below.refl _ _⟩
  case round =>
    obtain ⟨j, hj, rfl, hO, hB⟩ := hrel
    have HO := Lib.hid hO
    have HB := Lib.hid hB
    clear hO hB
    by_cases hlt : j < k
    · obtain ⟨ad, a1, c1, rfl, ⟨p0, p1, p2, p3, p4, p5, p6⟩, r1⟩ := (RL.out.below (KE_ok n) HB.out).at_ (j := j) (by have := HL.out; omega)
      have lj : j < l.length := by have := HL.out; omega
      have hx : l[j]? = some l[j] := List.getElem?_eq_getElem lj
      generalize l[j] = x at p0 p1 p2 p3 p4 p5 p6 r1 hx
      have HX := Lib.hid hx
      have hc := HE.out x a1 c1 wr r1
      clear hx r1
      obtain ⟨ps, hps, hog⟩ := HO.out
      have hpl := map_len hps (by omega)
      have B3 : Hid (ps.length + 1 ≤ maxLen) := Lib.hid (by unfold maxLen; omega)
      have B4 : Hid ((ps.length + 1) * 96 ≤ 140737488355328) := Lib.hid (by omega)
      have HPS := Lib.hid hps
      have HPL := Lib.hid hpl
      have HOG := Lib.hid hog
      have hz := HB.out.size
      have one := ExN.cs_one x.e
      have HC := Lib.hid hc
      clear hps hog hpl hc
      go_wp2_with (first | (go_at_call 14; refine HC.out.mono ?_; rintro e w1 ⟨a2, c2, rfl, hr, hb⟩; have HR := Lib.hid hr; have HB1 := Lib.hid hb; have hzb := hb.size; clear hr hb) | (at_builtin; refine wpList_append_own_at _ rfl (.tmp 11) (.tmp 17) 28 rfl w.heap.size 62 i0 (.agg #[.int .i64 0, .int .i64 0, .int .i64 0, .string ⟨#[]⟩, .string ⟨#[]⟩, .string ⟨#[]⟩, .slice none 0 0]) 7 96 Tryz.underlying28 hi hz0 hz1 hz2 rfl (by decide) _ _ _ rfl (ownE2 HOG.out HB1.out) ⟨w1.heap.size, 0, none⟩ 1 1 (x.e.cs a2 c2) rfl rfl (new_cells w1 _ _) (one _ _) B3.out B4.out (by simp; omega) ?_; intro v2 w2 hown hg _ hat; have HOG2 := Lib.hid (OwnG.stepE2 HOG.out HB1.out HB.out.size HR.out hown hg hat); have HB2 := Lib.hid (below_grow HB.out HB1.out HB.out.size (ownE2 HOG.out HB1.out) hg); clear hown hg hat))
      go_roundw
      case rel => exact ⟨j + 1, by omega, by go_num, ⟨_, map_snoc HPS.out HX.out, HOG2.out⟩, HB2.out⟩
      case measure => simp [intOf]; omega
    · have h1 : l.take j = l := List.take_of_length_le (by have := HL.out; omega)
      obtain ⟨A1, c1, rfl, hr⟩ := readE HO.out (by rw [h1]; have := HL.out; omega)
      rw [h1] at hr ⊢
      have HR := Lib.hid hr
      clear hr h1
      go_wp2
      go_ret
      exact ⟨A1, c1, rfl, HR.out, HB.out⟩

theorem copyExprsZ_any : ∀ (n : Nat) (A : Option Addr) (c : Nat) (l : List (Ar n)) (w : World), RdE w n A c l → Calls Tryz.prog 13 #[.slice A l.length c] w (CopiesZ n l w)
  | 0, A, c, l, w, rl => copyExprsZ_of (n := 0) (fun (x : Ar 0) => Empty.elim x) A l.length c l w rfl rl
  | n + 1, A, c, l, w, rl => copyExprsZ_of (n := n + 1) (fun (x : ExN (Ar n)) a c w h => copyExprZ_of x a c w fun w' hb => copyExprsZ_any n a c _ w' (h.below (KE_ok n) hb)) A l.length c l w rfl rl
theorem copyExprZ_any {n : Nat} (x : ExN (Ar n)) (a : Option Addr) (c : Nat) (w : World) (h : RdE w n a c x.l) :
    Calls Tryz.prog 14 #[x.val a c] w fun e w' => ∃ a' c', e = .returned (x.val a' c') ∧ RdZ (ZE n) (fun b => w.heap.size ≤ b) w' a' c' x.l ∧ Below w.heap.size w w' :=
  copyExprZ_of x a c w fun w' hb => copyExprsZ_any n a c _ w' (h.below (KE_ok n) hb)
end Go.Proofs.YtipcacplphidhaaGreat.Sy
/- A copy of a statement, and where it lies: the walk of CopyStmt. Conditions: a statement that is read in memory. -/
namespace Go.Proofs.YtipcacplphidhaaGreat.Sy
open Go.RowKit
set_option linter.unusedSimpArgs false
set_option linter.unusedVariables false

set_option maxHeartbeats 16000000 in
set_option maxRecDepth 100000 in
theorem copyStmtZ_any {n : Nat} (x : St n) (h : Hs) (w : World) (hr : RdSt Any w x h) :
    Calls Tryz.prog 6 #[x.val h] w fun e w' => ∃ h' : Hs, e = .returned (x.val h') ∧ RdStZ (fun b => w.heap.size ≤ b) w' x h' ∧ Below w.heap.size w w' := by
  have HR := Lib.hid hr
  clear hr
  obtain ⟨kind, tb, cols, key, ix, rows, sets, items, jn, on, wh, gr, ord, lim⟩ := x
  obtain ⟨⟨aC, cC⟩, ⟨aR, cR⟩, ⟨aS, cS⟩, ⟨aI, cI⟩, ⟨aO, cO⟩, ⟨aW, cW⟩, ⟨aG, cG⟩, ⟨aD, cD⟩⟩ := h
  unfold St.val St.cs
  dsimp only
  go_enter Tryz.func6, Tryz.ntmps6
  go_upto_region 5 with fail
  have hX := heap_on2 (heap_alloc_new w (.cells #[.int .i64 kind, .string tb, .slice aC cols.length cC, .string key, .string ix, .slice aR rows.length cR, .slice aS sets.length cS, .slice aI items.length cI, .string jn, .slice aO on.length cO, .slice aW wh.length cW, .slice aG gr.length cG, .slice aD ord.length cD, .int .i64 lim] 31)) (.cells #[.int .i64 0, .string ⟨#[]⟩, .slice none 0 0, .string ⟨#[]⟩, .string ⟨#[]⟩, .slice none 0 0, .slice none 0 0, .slice none 0 0, .string ⟨#[]⟩, .slice none 0 0, .slice none 0 0, .slice none 0 0, .slice none 0 0, .int .i64 0] 31)
  have hZ := heap_two w (.cells #[.int .i64 kind, .string tb, .slice aC cols.length cC, .string key, .string ix, .slice aR rows.length cR, .slice aS sets.length cS, .slice aI items.length cI, .string jn, .slice aO on.length cO, .slice aW wh.length cW, .slice aG gr.length cG, .slice aD ord.length cD, .int .i64 lim] 31) (.cells #[.int .i64 0, .string ⟨#[]⟩, .slice none 0 0, .string ⟨#[]⟩, .string ⟨#[]⟩, .slice none 0 0, .slice none 0 0, .slice none 0 0, .string ⟨#[]⟩, .slice none 0 0, .slice none 0 0, .slice none 0 0, .slice none 0 0, .int .i64 0] 31)
  have hB := below2 w (.cells #[.int .i64 kind, .string tb, .slice aC cols.length cC, .string key, .string ix, .slice aR rows.length cR, .slice aS sets.length cS, .slice aI items.length cI, .string jn, .slice aO on.length cO, .slice aW wh.length cW, .slice aG gr.length cG, .slice aD ord.length cD, .int .i64 lim] 31) (.cells #[.int .i64 0, .string ⟨#[]⟩, .slice none 0 0, .string ⟨#[]⟩, .string ⟨#[]⟩, .slice none 0 0, .slice none 0 0, .slice none 0 0, .string ⟨#[]⟩, .slice none 0 0, .slice none 0 0, .slice none 0 0, .slice none 0 0, .int .i64 0] 31)
  have hz : w.heap.size + 2 ≤ ((w.alloc (.cells #[.int .i64 kind, .string tb, .slice aC cols.length cC, .string key, .string ix, .slice aR rows.length cR, .slice aS sets.length cS, .slice aI items.length cI, .string jn, .slice aO on.length cO, .slice aW wh.length cW, .slice aG gr.length cG, .slice aD ord.length cD, .int .i64 lim] 31)).alloc (.cells #[.int .i64 0, .string ⟨#[]⟩, .slice none 0 0, .string ⟨#[]⟩, .string ⟨#[]⟩, .slice none 0 0, .slice none 0 0, .slice none 0 0, .string ⟨#[]⟩, .slice none 0 0, .slice none 0 0, .slice none 0 0, .slice none 0 0, .int .i64 0] 31)).heap.size := by simp
  generalize ((w.alloc (.cells #[.int .i64 kind, .string tb, .slice aC cols.length cC, .string key, .string ix, .slice aR rows.length cR, .slice aS sets.length cS, .slice aI items.length cI, .string jn, .slice aO on.length cO, .slice aW wh.length cW, .slice aG gr.length cG, .slice aD ord.length cD, .int .i64 lim] 31)).alloc (.cells #[.int .i64 0, .string ⟨#[]⟩, .slice none 0 0, .string ⟨#[]⟩, .string ⟨#[]⟩, .slice none 0 0, .slice none 0 0, .slice none 0 0, .string ⟨#[]⟩, .slice none 0 0, .slice none 0 0, .slice none 0 0, .slice none 0 0, .int .i64 0] 31)) = W at hX hZ hB hz ⊢
  have HB := Lib.hid hB
  clear hB
  have kR : rows.length ≤ 9223372036854775807 := by have := HR.out.R.hdr.2; dsimp only at this; omega
  have kS : sets.length ≤ 9223372036854775807 := by have := HR.out.S.hdr.2; dsimp only at this; omega
  have kR2 : rows.length * 24 ≤ 140737488355328 := HR.out.R.2.1
  have kS2 : sets.length * 112 ≤ 140737488355328 := HR.out.S.2.1
  obtain ⟨i0, hi, hz0, hz1, hz2⟩ := info_parts Tryz.infoR
  go_wp2_with fail
  go_loopw [4, 7] (fun v i wr => ∃ j : Nat, j ≤ rows.length ∧ i = .int .i64 j ∧ Owned (KR2 n) 28 (w.heap.size + 2) wr v (rows.take j) ∧ wr.heap[w.heap.size]? = some (.cells #[.int .i64 kind, .string tb, .slice aC cols.length cC, .string key, .string ix, .slice aR rows.length cR, .slice aS sets.length cS, .slice aI items.length cI, .string jn, .slice aO on.length cO, .slice aW wh.length cW, .slice aG gr.length cG, .slice aD ord.length cD, .int .i64 lim] 31 (0, 0)) ∧ wr.heap[w.heap.size + 1]? = some (.cells #[.int .i64 0, .string ⟨#[]⟩, .slice none 0 0, .string ⟨#[]⟩, .string ⟨#[]⟩, .slice none 0 0, .slice none 0 0, .slice none 0 0, .string ⟨#[]⟩, .slice none 0 0, .slice none 0 0, .slice none 0 0, .slice none 0 0, .int .i64 0] 31 (0, 0)) ∧ Below w.heap.size w wr) (fun _ i _ => rows.length - (intOf i).toNat)
  case atStart => exact ⟨0, by omega, rfl, Owned.nil _ _ _ _, hX, hZ, HB.out⟩
  case round =>
    clear hX hZ HB hz
    obtain ⟨j, hj, rfl, hO, hX, hZ, hb⟩ := hrel
    have HO := Lib.hid hO
    have HB := Lib.hid hb
    have HZ := Lib.hid hZ
    have hz : w.heap.size + 2 ≤ wr.heap.size := heap_lt hZ
    clear hO hb hZ
    obtain ⟨x0, x1, x2, x3, x4, x5, x6, x7, x8, x9, x10, x11, x12, x13⟩ := cells14 hX
    by_cases hlt : j < rows.length
    · obtain ⟨ad, a1, k1, rfl, p0, r1⟩ := (HR.out.R.below (KR_ok n) HB.out).row (j := j) hlt
      have hx : rows[j]? = some rows[j] := List.getElem?_eq_getElem hlt
      generalize rows[j] = y at p0 r1 hx
      have HXJ := Lib.hid hx
      have hc := copyExprsZ_any n a1 k1 y wr r1
      unfold CopiesZ at hc
      have HC := Lib.hid hc
      obtain ⟨ps, hps, hog⟩ := HO.out
      have hpl := map_len hps (by omega)
      have B3 : Hid (ps.length + 1 ≤ maxLen) := Lib.hid (by unfold maxLen; omega)
      have B4 : Hid ((ps.length + 1) * 24 ≤ 140737488355328) := Lib.hid (by omega)
      have HPS := Lib.hid hps
      have HPL := Lib.hid hpl
      have HOG := Lib.hid hog
      clear hps hog hpl hc hx r1 HO
      go_wp2_with (first | (go_at_call 13; refine HC.out.mono ?_; rintro e w1 ⟨a2, c2, rfl, hrd, hb⟩; have HRD := Lib.hid hrd; have HB1 := Lib.hid hb; have hzb := hb.size; clear hrd hb x0 x1 x2 x3 x4 x5 x6 x7 x8 x9 x10 x11 x12 x13 p0) | (at_builtin; refine wpList_append_own_at _ rfl (.tmp 16) (.tmp 23) 26 rfl (w.heap.size + 2) 28 i0 (.slice none 0 0) 1 24 Tryz.underlying26 hi hz0 hz1 hz2 rfl (by decide) _ _ _ rfl (own_step (KR2_ok n) HOG.out HB1.out) ⟨w1.heap.size, 0, none⟩ 1 1 [.slice a2 y.length c2] rfl rfl (new_cells w1 _ _) (fun u hu => (by simp at hu; subst hu; rfl)) B3.out B4.out (by simp; omega) ?_; intro v2 w2 hown hg _ hat; have HOG2 := Lib.hid (OwnG.step (K := KR2 n) (KR2_ok n) HOG.out HB1.out hz (show (KR2 n).dp (fun b => wr.heap.size ≤ b) w1 y a2 c2 from HRD.out) hown hg hat); have HG2 := Lib.hid (below_grow (base := w.heap.size + 2) (Below.refl _ wr) HB1.out hz (own_step (KR2_ok n) HOG.out HB1.out) hg); clear hown hg hat))
      go_roundw
      case rel => exact ⟨j + 1, by omega, by go_num, ⟨_, map_snoc HPS.out HXJ.out, HOG2.out⟩, (HG2.out.block _ (by omega)).trans hX, (HG2.out.block _ (by omega)).trans HZ.out, HB.out.trans (HG2.out.mono (by omega))⟩
      case measure => simp [intOf]; omega
    · have HRW : Hid (rows.take j = rows) := Lib.hid (List.take_of_length_le (by omega))
      obtain ⟨AR, kRR, rfl, hOR⟩ := readR HO.out (by rw [HRW.out]; exact kR2)
      rw [HRW.out] at hOR ⊢
      have HOR := Lib.hid hOR
      clear hOR HRW HO hi hz0 hz1 hz2
      obtain ⟨i0, hi, hz0, hz1, hz2⟩ := info_parts Tryz.infoS
      go_wp2_with fail
      clear x0 x1 x2 x3 x4 x5 x6 x7 x8 x9 x10 x11 x12 x13 hlt
      have HX := Lib.hid hX
      clear hX hj
      generalize wr = W1 at *
      go_loopw [5, 8] (fun v2 i wq => ∃ j : Nat, j ≤ sets.length ∧ i = .int .i64 j ∧ Owned (KS2 n) 64 W1.heap.size wq v2 (sets.take j) ∧ Below W1.heap.size W1 wq) (fun _ i _ => sets.length - (intOf i).toNat)
      case atStart => exact ⟨0, by omega, rfl, Owned.nil _ _ _ _, Below.refl _ _⟩
      case round =>
        obtain ⟨j, hj, rfl, hO, hb⟩ := hrel
        have HO := Lib.hid hO
        have HB1' := Lib.hid hb
        have hzW : W1.heap.size ≤ wr.heap.size := hb.size
        have HBw : Hid (Below w.heap.size w wr) := Lib.hid (HB.out.trans (hb.mono HB.out.size))
        have hX := (hb.block _ (by omega)).trans HX.out
        have HXr := Lib.hid hX
        clear hO hb
        obtain ⟨x0, x1, x2, x3, x4, x5, x6, x7, x8, x9, x10, x11, x12, x13⟩ := cells14 hX
        by_cases hlt : j < sets.length
        · obtain ⟨ad, a1, k1, rfl, ⟨p0, p1, p2, p3, p4, p5, p6, p7⟩, r1⟩ := (HR.out.S).set (j := j) hlt
          have hx : sets[j]? = some sets[j] := List.getElem?_eq_getElem hlt
          generalize sets[j] = y at p0 p1 p2 p3 p4 p5 p6 p7 r1 hx
          have HXJ := Lib.hid hx
          have HC := Lib.hid fun (V : World) (hb : Below w.heap.size w V) => copyExprZ_any y.x a1 k1 V (RdK.below (KE_ok n) r1 hb)
          obtain ⟨xm, ⟨op, ⟨k, m, s, hv⟩, t, nm, ls⟩⟩ := y
          unfold ExN.val at HC
          dsimp only at p0 p1 p2 p3 p4 p5 p6 p7 HC
          have PK := Lib.hid fun (V : World) (hb : Below w.heap.size w V) => (⟨cell_keep p0 hb, cell_keep p1 hb, cell_keep p2 hb, cell_keep p3 hb, cell_keep p4 hb, cell_keep p5 hb, cell_keep p6 hb, cell_keep p7 hb⟩ : _ ∧ _ ∧ _ ∧ _ ∧ _ ∧ _ ∧ _ ∧ _)
          obtain ⟨ps, hps, hog⟩ := HO.out
          have hpl := map_len hps (by omega)
          have B3 : Hid (ps.length + 1 ≤ maxLen) := Lib.hid (by unfold maxLen; omega)
          have B4 : Hid ((ps.length + 1) * 112 ≤ 140737488355328) := Lib.hid (by omega)
          have HPS := Lib.hid hps
          have HPL := Lib.hid hpl
          have HOG := Lib.hid hog
          clear p0 p1 p2 p3 p4 p5 p6 p7 hps hog hpl hx r1 HO
          obtain ⟨p0, p1, p2, p3, p4, p5, p6, p7⟩ := PK.out wr HBw.out
          have hq := cell_lt p0
          go_wp2_with fail
          have hq2 := hq
          rw [add_block] at hq2
          go_region_held3 (fun w' => w'.cell? ⟨w.heap.size, 6, none⟩ = some (.slice (some ad) sets.length cS) ∧ w'.cell? (ad.add (j * 8)) = some (.string xm) ∧ w'.cell? ⟨(ad.add (j * 8)).block, (ad.add (j * 8)).off + 1, none⟩ = some (.int .i64 op) ∧ w'.cell? ⟨(ad.add (j * 8)).block, (ad.add (j * 8)).off + 2, none⟩ = some (.int .i64 k) ∧ w'.cell? ⟨(ad.add (j * 8)).block, (ad.add (j * 8)).off + 3, none⟩ = some (.int .i64 m) ∧ w'.cell? ⟨(ad.add (j * 8)).block, (ad.add (j * 8)).off + 4, none⟩ = some (.string s) ∧ w'.cell? ⟨(ad.add (j * 8)).block, (ad.add (j * 8)).off + 5, none⟩ = some (.string t) ∧ w'.cell? ⟨(ad.add (j * 8)).block, (ad.add (j * 8)).off + 6, none⟩ = some (.string nm) ∧ w'.cell? ⟨(ad.add (j * 8)).block, (ad.add (j * 8)).off + 7, none⟩ = some (.slice a1 ls.length k1)) (first | assumption | go_keep) (first | (go_at_call 14; refine (HC.out _ HBw.out.drew).mono ?_; rintro e w1 ⟨a2, c2, rfl, hrd, hb⟩; have HRD := Lib.hid hrd; have HB1 := Lib.hid (show Below wr.heap.size wr w1 from (Below.refl _ wr).drew.trans hb); have hzb : wr.heap.size ≤ w1.heap.size := hb.size; clear x0 x1 x2 x3 x4 x5 x6 x7 x8 x9 x10 x11 x12 x13 p0 p1 p2 p3 p4 p5 p6 p7; obtain ⟨p0, p1, p2, p3, p4, p5, p6, p7⟩ := PK.out w1 ((HBw.out.drew).trans (hb.mono HBw.out.size)); have x6 := (cells14 ((hb.block _ (by show w.heap.size < wr.heap.size; omega)).trans HXr.out)).2.2.2.2.2.2.1; have n0 := World.new_ne w1 _ p0; have n6 := World.new_ne w1 _ x6; clear hrd hb) | (refine step_append_lies _ rfl (.tmp 32) (.tmp 47) 27 rfl W1.heap.size 64 i0 (.agg #[.string ⟨#[]⟩, .int .i64 0, .int .i64 0, .int .i64 0, .string ⟨#[]⟩, .string ⟨#[]⟩, .string ⟨#[]⟩, .slice none 0 0]) 8 112 Tryz.underlying27 hi hz0 hz1 hz2 rfl (by decide) _ _ _ rfl (own_step (KS2_ok n) HOG.out HB1.out) ⟨w1.heap.size, 0, none⟩ 1 1 [.string xm, .int .i64 op, .int .i64 k, .int .i64 m, .string s, .string t, .string nm, .slice a2 ls.length c2] rfl rfl (new_cells w1 _ _) ((KS2_ok n).one (⟨xm, ⟨op, ⟨k, m, s, hv⟩, t, nm, ls⟩⟩ : Sx n) a2 c2) (by decide) B3.out B4.out (by simp; omega) _ rfl ?_; intro g cap w2 hown hg hat hgl; have HOG2 := Lib.hid (OwnG.step (K := KS2 n) (y := (⟨xm, ⟨op, ⟨k, m, s, hv⟩, t, nm, ls⟩⟩ : Sx n)) (a := a2) (c := c2) (KS2_ok n) HOG.out HB1.out hzW HRD.out hown hg (hat.elim (fun h => .inl h.symm) (fun h => .inr (congrArg some h)))); have HG2 := Lib.hid (below_grow (base := W1.heap.size) (Below.refl _ wr) HB1.out hzW (own_step (KS2_ok n) HOG.out HB1.out) hg); clear hown hg hat x6 p0 p1 p2 p3 p4 p5 p6 p7 n0 n6; obtain ⟨p0, p1, p2, p3, p4, p5, p6, p7⟩ := PK.out w2 (HBw.out.trans (HG2.out.mono (by omega))); have x6 := (cells14 ((HG2.out.block _ (by omega)).trans HXr.out)).2.2.2.2.2.2.1))
          go_wp2_with fail
          go_roundw
          case rel => first | exact ⟨j + 1, by omega, by go_num, ⟨_, map_snoc HPS.out HXJ.out, HOG2.out⟩, HB1'.out.trans HG2.out⟩ | ((repeat apply Exists.intro); exact ⟨⟨j + 1, by omega, by go_num, ⟨_, map_snoc HPS.out HXJ.out, HOG2.out⟩, HB1'.out.trans HG2.out⟩, rfl⟩)
          case measure => simp [intOf]; omega
        · have HSW : Hid (sets.take j = sets) := Lib.hid (List.take_of_length_le (by omega))
          obtain ⟨AS, kSS, rfl, hOS⟩ := readS HO.out (by rw [HSW.out]; exact kS2)
          rw [HSW.out] at hOS ⊢
          have HOS := Lib.hid hOS
          clear hOS HSW HO hi hz0 hz1 hz2
          go_upto_region 13 with fail
          clear hlt hj
          have HHC := Lib.hid (show Hdr aC cols.length cC from HR.out.C.hdr)
          have HHD := Lib.hid (show Hdr aD ord.length cD from HR.out.D.hdr)
          have HBC := Lib.hid (show cols.length * 32 ≤ 140737488355328 from HR.out.C.2.1)
          have HBD := Lib.hid (show ord.length * 16 ≤ 140737488355328 from HR.out.D.2.1)
          have HFC := Lib.hid fun (V : World) (hb : Below w.heap.size w V) => flat_cells KC_ok (fun _ _ _ => rfl) (RdK.below KC_ok HR.out.C hb)
          have HFD := Lib.hid fun (V : World) (hb : Below w.heap.size w V) => flat_cells KO_ok (fun _ _ _ => rfl) (RdK.below KO_ok HR.out.D hb)
          have HLC := Lib.hid (flat_len (f := fun x : Cl => KC.cs x none 0) (k := 3) (fun x => KC_ok.len x none 0) cols)
          have HLD := Lib.hid (flat_len (f := fun x : Od => KO.cs x none 0) (k := 2) (fun x => KO_ok.len x none 0) ord)
          have HOC := Lib.hid fun u (hu : u ∈ cols.flatMap fun x => KC.cs x none 0) => (List.mem_flatMap.1 hu).elim fun y hy => KC_ok.one y none 0 u hy.2
          have HOD := Lib.hid fun u (hu : u ∈ ord.flatMap fun x => KO.cs x none 0) => (List.mem_flatMap.1 hu).elim fun y hy => KO_ok.one y none 0 u hy.2
          obtain ⟨iC, hiC, hC0, hC1, hC2⟩ := info_parts Tryz.infoC
          obtain ⟨iO, hiO, hO0, hO1, hO2⟩ := info_parts Tryz.infoO
          clear hX
          go_cut [58] (fun _ wd => ∃ AC kC' AD kD', wd.heap[w.heap.size]? = some (.cells #[.int .i64 kind, .string tb, .slice AC cols.length kC', .string key, .string ix, .slice AR rows.length kRR, .slice AS sets.length kSS, .slice aI items.length cI, .string jn, .slice aO on.length cO, .slice aW wh.length cW, .slice aG gr.length cG, .slice AD ord.length kD', .int .i64 lim] 31 (0, 0)) ∧ RdZ ZC (fun b => wr.heap.size ≤ b) wd AC kC' cols ∧ RdZ ZO (fun b => wr.heap.size ≤ b) wd AD kD' ord ∧ Out (fun b => w.heap.size + 1 ≤ b ∧ b < wr.heap.size) wr wd ∧ Below w.heap.size w wd ∧ wr.heap.size ≤ wd.heap.size)
          case first =>
            go_region_law (first | (refine step_append_nil rfl (.tmp 49) (.tmp 51) 25 rfl 48 iC (.agg #[.string ⟨#[]⟩, .int .i64 0, .bool false]) 3 32 Tryz.underlying25 hiC hC0 hC1 hC2 rfl (by decide) rfl aC cols.length cC _ HHC.out rfl HLC.out (HFC.out _ HBw.out.drew) HOC.out HBC.out ?_; intro v1 w1 hown hg; obtain ⟨AC, kC', rfl, hrc⟩ := readC (Owned.flat (K := KC) (T := 48) (fun _ _ _ => rfl) (fun _ _ _ _ _ => trivial) hown) HBC.out; have HRC := Lib.hid (show RdZ ZC (fun b => wr.heap.size ≤ b) w1 AC kC' cols from hrc); have HG1 := Lib.hid (show Below wr.heap.size wr w1 from (by obtain ⟨g1, g2, g3, g4, g5⟩ := hg; exact ⟨g1, g2, g3, g4, fun k hk => g5 k hk (by simp)⟩)); clear hown hg hrc; have HX1 := Lib.hid ((HG1.out.block _ (by omega)).trans HXr.out); have hz1 := HG1.out.size; have y12 := (cells14 HX1.out).2.2.2.2.2.2.2.2.2.2.2.2.1) | (refine step_append_nil rfl (.tmp 55) (.tmp 57) 29 rfl 85 iO (.agg #[.int .i64 0, .bool false]) 2 16 Tryz.underlying29 hiO hO0 hO1 hO2 rfl (by decide) rfl aD ord.length cD _ HHD.out rfl HLD.out (HFD.out _ (HBw.out.trans (HG1.out.mono HBw.out.size))) HOD.out HBD.out ?_; intro v2 w2 hown hg; obtain ⟨AD, kD', rfl, hrd⟩ := readO (Owned.flat (K := KO) (T := 85) (fun _ _ _ => rfl) (fun _ _ _ _ _ => trivial) hown) HBD.out; have HG2 := Lib.hid (show Below w1.heap.size w1 w2 from (by obtain ⟨g1, g2, g3, g4, g5⟩ := hg; exact ⟨g1, g2, g3, g4, fun k hk => g5 k hk (by simp)⟩)); have hz2 := HG2.out.size; have HRD := Lib.hid (RdZ.mono ZO_ok (S' := fun b => wr.heap.size ≤ b) (show RdZ ZO (fun b => w1.heap.size ≤ b) w2 AD kD' ord from hrd) fun b hb _ => Nat.le_trans hz1 hb); have HRC2 := Lib.hid (HRC.out.below ZC_ok HG2.out); clear hown hg hrd y12 HRC; have HX2 := Lib.hid ((HG2.out.block _ (by omega)).trans HX1.out); obtain ⟨_, _, q2, _, _, q5, q6, _, _, _, _, _, q12, _⟩ := cells14 HX2.out; have f2 := frz14 (i := 2) HX2.out (by decide); have f5 := frz14 (i := 5) HX2.out (by decide); have f6 := frz14 (i := 6) HX2.out (by decide); have f12 := frz14 (i := 12) HX2.out (by decide)))
            all_goals
              obtain ⟨hs1, hs2, hs3⟩ := sets4 HX2.out 2 5 6 12 (.slice AC cols.length kC') (.slice AR rows.length kRR) (.slice AS sets.length kSS) (.slice AD ord.length kD')
              have hs1' := hs1.trans (show _ = some (Obj.cells #[.int .i64 kind, .string tb, .slice AC cols.length kC', .string key, .string ix, .slice AR rows.length kRR, .slice AS sets.length kSS, .slice aI items.length cI, .string jn, .slice aO on.length cO, .slice aW wh.length cW, .slice aG gr.length cG, .slice AD ord.length kD', .int .i64 lim] 31 (0, 0)) from rfl)
              have hb12 : Below w.heap.size w w2 := (HBw.out.trans (HG1.out.mono HBw.out.size)).trans (HG2.out.mono (by omega))
              have hr1 := RdZ.out ZC_ok HRC2.out (hs2 (fun b => wr.heap.size ≤ b) (by show ¬ wr.heap.size ≤ w.heap.size; omega))
              have hr2 := RdZ.out ZO_ok HRD.out (hs2 (fun b => wr.heap.size ≤ b) (by show ¬ wr.heap.size ≤ w.heap.size; omega))
              have ho1 : Out (fun b => w.heap.size + 1 ≤ b ∧ b < wr.heap.size) wr w2 := fun b hb => (HG2.out.block b (by omega)).trans (HG1.out.block b hb.2)
              have ho2 := Out.then ho1 (hs2 (fun b => w.heap.size + 1 ≤ b ∧ b < wr.heap.size) (by show ¬ (w.heap.size + 1 ≤ w.heap.size ∧ w.heap.size < wr.heap.size); omega))
              have hb2 := hb12.trans hs3
              have hzz : wr.heap.size ≤ w2.heap.size := by omega
              have hz4 := Nat.le_trans hzz hs3.size
              go_wp2_with fail
              go_meet
              exact ⟨AC, kC', AD, kD', hs1', hr1, hr2, ho2, hb2, hz4⟩
          case rest =>
            obtain ⟨AC, kC', AD, kD', hX, hrC, hrD, ho, hbw, hzc⟩ := hcut
            clear HHC HHD HBC HBD HFC HFD HLC HLD HOC HOD hiC hC0 hC1 hC2 hiO hO0 hO1 hO2 kR kS kR2 kS2
            have hz1 : w.heap.size + 2 ≤ W1.heap.size := hz
            have HX := Lib.hid hX
            have ho2 : Out (fun b => w.heap.size + 2 ≤ b ∧ b < wr.heap.size) wr wc := fun b hb => ho b ⟨by have := hb.1; omega, hb.2⟩
            have HRC := Lib.hid (hrC.mono ZC_ok (S' := fun b => w.heap.size + 2 ≤ b) fun b hb _ => (by have : wr.heap.size ≤ b := hb; omega))
            have HRD := Lib.hid (hrD.mono ZO_ok (S' := fun b => w.heap.size + 2 ≤ b) fun b hb _ => (by have : wr.heap.size ≤ b := hb; omega))
            have HRR := Lib.hid ((RdZ.out (ZR_ok n) (RdZ.mono (ZR_ok n) (S' := fun b => w.heap.size + 2 ≤ b ∧ b < wr.heap.size) (HOR.out.below (ZR_ok n) HB1'.out) fun b hb hlt => ⟨hb, hlt⟩) ho2).mono (ZR_ok n) (S' := fun b => w.heap.size + 2 ≤ b) fun b hb _ => hb.1)
            have HRS := Lib.hid ((RdZ.out (ZS_ok n) (RdZ.mono (ZS_ok n) (S' := fun b => w.heap.size + 2 ≤ b ∧ b < wr.heap.size) HOS.out fun b hb hlt => ⟨(by have : W1.heap.size ≤ b := hb; omega), hlt⟩) ho2).mono (ZS_ok n) (S' := fun b => w.heap.size + 2 ≤ b) fun b hb _ => hb.1)
            have HZ1 := Lib.hid ((ho (w.heap.size + 1) ⟨Nat.le_refl _, by omega⟩).trans ((HB1'.out.block _ (by omega)).trans HZ.out))
            have HBC := Lib.hid hbw
            have hzc2 : w.heap.size + 2 ≤ wc.heap.size := by omega
            have HCI := Lib.hid fun (V : World) (hb : Below w.heap.size w V) => copyExprsZ_any n aI cI items V (RdK.below (KE_ok n) (w := w) HR.out.I hb)
            have HCO := Lib.hid fun (V : World) (hb : Below w.heap.size w V) => copyExprsZ_any n aO cO on V (RdK.below (KE_ok n) (w := w) HR.out.O hb)
            have HCW := Lib.hid fun (V : World) (hb : Below w.heap.size w V) => copyExprsZ_any n aW cW wh V (RdK.below (KE_ok n) (w := w) HR.out.W hb)
            have HCG := Lib.hid fun (V : World) (hb : Below w.heap.size w V) => copyExprsZ_any n aG cG gr V (RdK.below (KE_ok n) (w := w) HR.out.G hb)
            clear hrC hrD ho ho2 hbw hz hzW hzc HOR HOS HB1' HXr HBw HZ HB HR hX
            obtain ⟨_, _, _, _, _, _, _, q7, _, q9, q10, q11, _, _⟩ := cells14 HX.out
            generalize W1.heap.size = s1 at *
            go_upto_region 14 with fail
            refine region_anyT (fun w' => w'.cell? ⟨w.heap.size, 7, none⟩ = some (.slice aI items.length cI) ∧ w'.cell? ⟨w.heap.size, 9, none⟩ = some (.slice aO on.length cO) ∧ w'.cell? ⟨w.heap.size, 10, none⟩ = some (.slice aW wh.length cW) ∧ w'.cell? ⟨w.heap.size, 11, none⟩ = some (.slice aG gr.length cG)) [1, 2, 4, 5, 7, 8, 10, 11] (by kernel_rfl) ⟨q7, q9, q10, q11⟩ ?_
            intro hcl hS
            clear q7 q9 q10 q11
            refine anyT_free (i := 0) (v := ?v0) rfl (by kernel_rfl) (by kernel_rfl) (by kernel_rfl) (by kernel_rfl) (fun _ _ _ h => h) (Or.inl ⟨by rfl, ?hy0⟩) hcl ?rest0
            case hy0 => intro w' _; go_simp; with_reducible rfl
            clear hcl
            intro hcl
            try simp only [Act.put, List.setIfInBounds_toArray, List.set_cons_zero, List.set_cons_succ]
            refine anyT_free (i := 3) (v := ?v3) rfl (by kernel_rfl) (by kernel_rfl) (by kernel_rfl) (by kernel_rfl) (fun _ _ _ h => h) (Or.inl ⟨by rfl, ?hy3⟩) hcl ?rest3
            case hy3 => intro w' _; go_simp; with_reducible rfl
            clear hcl
            intro hcl
            try simp only [Act.put, List.setIfInBounds_toArray, List.set_cons_zero, List.set_cons_succ]
            refine anyT_free (i := 6) (v := ?v6) rfl (by kernel_rfl) (by kernel_rfl) (by kernel_rfl) (by kernel_rfl) (fun _ _ _ h => h) (Or.inl ⟨by rfl, ?hy6⟩) hcl ?rest6
            case hy6 => intro w' _; go_simp; with_reducible rfl
            clear hcl
            intro hcl
            try simp only [Act.put, List.setIfInBounds_toArray, List.set_cons_zero, List.set_cons_succ]
            refine anyT_free (i := 9) (v := ?v9) rfl (by kernel_rfl) (by kernel_rfl) (by kernel_rfl) (by kernel_rfl) (fun _ _ _ h => h) (Or.inl ⟨by rfl, ?hy9⟩) hcl ?rest9
            case hy9 => intro w' _; go_simp; with_reducible rfl
            clear hcl
            intro hcl
            try simp only [Act.put, List.setIfInBounds_toArray, List.set_cons_zero, List.set_cons_succ]
            refine anyT_take (i := 1) (v := .slice aI items.length cI) rfl (by kernel_rfl) (by kernel_rfl) (by kernel_rfl) (by kernel_rfl) (fun _ _ _ h => h) (Or.inl ⟨by rfl, ?hy1⟩) hS hcl ?rest1
            case hy1 => intro w' hSw; obtain ⟨q7, q9, q10, q11⟩ := hSw; go_simp
            clear hcl
            intro hcl
            try simp only [Act.put, List.setIfInBounds_toArray, List.set_cons_zero, List.set_cons_succ]
            refine anyT_take (i := 4) (v := .slice aO on.length cO) rfl (by kernel_rfl) (by kernel_rfl) (by kernel_rfl) (by kernel_rfl) (fun _ _ _ h => h) (Or.inl ⟨by rfl, ?hy4⟩) hS hcl ?rest4
            case hy4 => intro w' hSw; obtain ⟨q7, q9, q10, q11⟩ := hSw; go_simp
            clear hcl
            intro hcl
            try simp only [Act.put, List.setIfInBounds_toArray, List.set_cons_zero, List.set_cons_succ]
            refine anyT_take (i := 7) (v := .slice aW wh.length cW) rfl (by kernel_rfl) (by kernel_rfl) (by kernel_rfl) (by kernel_rfl) (fun _ _ _ h => h) (Or.inl ⟨by rfl, ?hy7⟩) hS hcl ?rest7
            case hy7 => intro w' hSw; obtain ⟨q7, q9, q10, q11⟩ := hSw; go_simp
            clear hcl
            intro hcl
            try simp only [Act.put, List.setIfInBounds_toArray, List.set_cons_zero, List.set_cons_succ]
            refine anyT_take (i := 10) (v := .slice aG gr.length cG) rfl (by kernel_rfl) (by kernel_rfl) (by kernel_rfl) (by kernel_rfl) (fun _ _ _ h => h) (Or.inl ⟨by rfl, ?hy10⟩) hS hcl ?rest10
            case hy10 => intro w' hSw; obtain ⟨q7, q9, q10, q11⟩ := hSw; go_simp
            clear hcl
            intro hcl
            try simp only [Act.put, List.setIfInBounds_toArray, List.set_cons_zero, List.set_cons_succ]
            refine anyT_step (k := 2) rfl (by kernel_rfl) hcl ?_
            intro K hK
            go_simp
            go_at_call 13
            refine (HCI.out _ HBC.out.drew).mono ?_
            rintro e w1 ⟨AI, kI, rfl, hrI, hbI⟩
            have HT1 := Lib.hid (show Below wc.heap.size wc w1 from (Below.refl _ wc).drew.trans hbI)
            have HRI := Lib.hid (RdZ.mono (ZE_ok n) (S' := fun b => w.heap.size + 2 ≤ b) hrI fun b hb _ => Nat.le_trans hzc2 hb)
            clear hrI hbI
            have hS0 := hS
            clear hS
            refine hK.out _ _ (by obtain ⟨_, _, _, _, _, _, _, q7, _, q9, q10, q11, _, _⟩ := cells14 ((HT1.out.block _ (by omega)).trans HX.out); exact ⟨q7, q9, q10, q11⟩) (fun hS hcl => ?_)
            clear hK K hS0
            try simp only [Act.put, List.setIfInBounds_toArray, List.set_cons_zero, List.set_cons_succ]
            refine anyT_free (i := 12) (v := ?v12) rfl (by kernel_rfl) (by kernel_rfl) (by kernel_rfl) (by kernel_rfl) (fun _ _ _ h => h) (Or.inl ⟨by rfl, ?hy12⟩) hcl ?rest12
            case hy12 => intro w' _; go_simp; with_reducible rfl
            clear hcl
            intro hcl
            try simp only [Act.put, List.setIfInBounds_toArray, List.set_cons_zero, List.set_cons_succ]
            refine anyT_step (k := 5) rfl (by kernel_rfl) hcl ?_
            intro K hK
            go_simp
            go_at_call 13
            refine (HCO.out _ (HBC.out.trans (HT1.out.mono (by omega)))).mono ?_
            rintro e w2 ⟨AO, kO, rfl, hrO, hbO⟩
            have HT2 := Lib.hid (HT1.out.trans (hbO.mono HT1.out.size))
            replace HRI := Lib.hid (HRI.out.below (ZE_ok n) hbO)
            have HRO := Lib.hid (RdZ.mono (ZE_ok n) (S' := fun b => w.heap.size + 2 ≤ b) hrO fun b hb _ => Nat.le_trans (Nat.le_trans hzc2 HT1.out.size) hb)
            clear hrO hbO
            have hS1 := hS
            clear hS
            refine hK.out _ _ (by obtain ⟨_, _, _, _, _, _, _, q7, _, q9, q10, q11, _, _⟩ := cells14 ((HT2.out.block _ (by omega)).trans HX.out); exact ⟨q7, q9, q10, q11⟩) (fun hS hcl => ?_)
            clear hK K hS1
            try simp only [Act.put, List.setIfInBounds_toArray, List.set_cons_zero, List.set_cons_succ]
            refine anyT_step (k := 8) rfl (by kernel_rfl) hcl ?_
            intro K hK
            go_simp
            go_at_call 13
            refine (HCW.out _ (HBC.out.trans (HT2.out.mono (by omega)))).mono ?_
            rintro e w3 ⟨AW, kW, rfl, hrW, hbW⟩
            have HT3 := Lib.hid (HT2.out.trans (hbW.mono HT2.out.size))
            replace HRI := Lib.hid (HRI.out.below (ZE_ok n) hbW)
            replace HRO := Lib.hid (HRO.out.below (ZE_ok n) hbW)
            have HRW := Lib.hid (RdZ.mono (ZE_ok n) (S' := fun b => w.heap.size + 2 ≤ b) hrW fun b hb _ => Nat.le_trans (Nat.le_trans hzc2 HT2.out.size) hb)
            clear hrW hbW
            have hS2 := hS
            clear hS
            refine hK.out _ _ (by obtain ⟨_, _, _, _, _, _, _, q7, _, q9, q10, q11, _, _⟩ := cells14 ((HT3.out.block _ (by omega)).trans HX.out); exact ⟨q7, q9, q10, q11⟩) (fun hS hcl => ?_)
            clear hK K hS2
            try simp only [Act.put, List.setIfInBounds_toArray, List.set_cons_zero, List.set_cons_succ]
            refine anyT_step (k := 11) rfl (by kernel_rfl) hcl ?_
            intro K hK
            go_simp
            go_at_call 13
            refine (HCG.out _ (HBC.out.trans (HT3.out.mono (by omega)))).mono ?_
            rintro e w4 ⟨AG, kG, rfl, hrG, hbG⟩
            have HT4 := Lib.hid (HT3.out.trans (hbG.mono HT3.out.size))
            replace HRI := Lib.hid (HRI.out.below (ZE_ok n) hbG)
            replace HRO := Lib.hid (HRO.out.below (ZE_ok n) hbG)
            replace HRW := Lib.hid (HRW.out.below (ZE_ok n) hbG)
            have HRG := Lib.hid (RdZ.mono (ZE_ok n) (S' := fun b => w.heap.size + 2 ≤ b) hrG fun b hb _ => Nat.le_trans (Nat.le_trans hzc2 HT3.out.size) hb)
            clear hrG hbG
            have hS3 := hS
            clear hS
            refine hK.out _ _ (by obtain ⟨_, _, _, _, _, _, _, q7, _, q9, q10, q11, _, _⟩ := cells14 ((HT4.out.block _ (by omega)).trans HX.out); exact ⟨q7, q9, q10, q11⟩) (fun hS hcl => ?_)
            clear hK K hS3
            try simp only [Act.put, List.setIfInBounds_toArray, List.set_cons_zero, List.set_cons_succ]
            have HX4 := Lib.hid ((HT4.out.block _ (by omega)).trans HX.out)
            obtain ⟨_, _, _, _, _, _, _, q7, _, q9, q10, q11, _, _⟩ := cells14 HX4.out
            have f7 := frz14 (i := 7) HX4.out (by decide)
            have f9 := frz14 (i := 9) HX4.out (by decide)
            have f10 := frz14 (i := 10) HX4.out (by decide)
            have f11 := frz14 (i := 11) HX4.out (by decide)
            clear hS
            refine anyT_last (k := 13) rfl (by kernel_rfl) (by kernel_rfl) hcl ?_
            intro K hK
            go_simp
            clear hcl
            refine hK.out _ _ (fun hcl => ?_)
            clear hK K
            try simp only [Act.put, List.setIfInBounds_toArray, List.set_cons_zero, List.set_cons_succ]
            refine anyT_free (i := 14) (v := ?v14) rfl (by kernel_rfl) (by kernel_rfl) (by kernel_rfl) (by kernel_rfl) (fun _ _ _ h => h) (Or.inl ⟨by rfl, ?hy14⟩) hcl ?rest14
            case hy14 => intro w' _; go_simp; with_reducible rfl
            clear hcl
            intro hcl
            try simp only [Act.put, List.setIfInBounds_toArray, List.set_cons_zero, List.set_cons_succ]
            refine anyT_last (k := 15) rfl (by kernel_rfl) (by kernel_rfl) hcl ?_
            intro K hK
            go_simp
            clear hcl
            refine hK.out _ _ (fun hcl => ?_)
            clear hK K
            try simp only [Act.put, List.setIfInBounds_toArray, List.set_cons_zero, List.set_cons_succ]
            refine anyT_free (i := 16) (v := ?v16) rfl (by kernel_rfl) (by kernel_rfl) (by kernel_rfl) (by kernel_rfl) (fun _ _ _ h => h) (Or.inl ⟨by rfl, ?hy16⟩) hcl ?rest16
            case hy16 => intro w' _; go_simp; with_reducible rfl
            clear hcl
            intro hcl
            try simp only [Act.put, List.setIfInBounds_toArray, List.set_cons_zero, List.set_cons_succ]
            refine anyT_last (k := 17) rfl (by kernel_rfl) (by kernel_rfl) hcl ?_
            intro K hK
            go_simp
            clear hcl
            refine hK.out _ _ (fun hcl => ?_)
            clear hK K
            try simp only [Act.put, List.setIfInBounds_toArray, List.set_cons_zero, List.set_cons_succ]
            refine anyT_free (i := 18) (v := ?v18) rfl (by kernel_rfl) (by kernel_rfl) (by kernel_rfl) (by kernel_rfl) (fun _ _ _ h => h) (Or.inl ⟨by rfl, ?hy18⟩) hcl ?rest18
            case hy18 => intro w' _; go_simp; with_reducible rfl
            clear hcl
            intro hcl
            try simp only [Act.put, List.setIfInBounds_toArray, List.set_cons_zero, List.set_cons_succ]
            refine anyT_last (k := 19) rfl (by kernel_rfl) (by kernel_rfl) hcl ?_
            intro K hK
            go_simp
            clear hcl
            refine hK.out _ _ (fun hcl => ?_)
            clear hK K
            try simp only [Act.put, List.setIfInBounds_toArray, List.set_cons_zero, List.set_cons_succ]
            refine anyT_done (by kernel_rfl) ?_ _
            obtain ⟨hs1, hs2, hs3⟩ := sets4 HX4.out 7 9 10 11 (.slice AI items.length kI) (.slice AO on.length kO) (.slice AW wh.length kW) (.slice AG gr.length kG)
            have HXF := Lib.hid (hs1.trans (show _ = some (Obj.cells #[.int .i64 kind, .string tb, .slice AC cols.length kC', .string key, .string ix, .slice AR rows.length kRR, .slice AS sets.length kSS, .slice AI items.length kI, .string jn, .slice AO on.length kO, .slice AW wh.length kW, .slice AG gr.length kG, .slice AD ord.length kD', .int .i64 lim] 31 (0, 0)) from rfl))
            have HZF := Lib.hid ((hs2 (fun b => w.heap.size + 1 ≤ b) (by show ¬ w.heap.size + 1 ≤ w.heap.size; omega) (w.heap.size + 1) (Nat.le_refl _)).trans ((HT4.out.block _ (by omega)).trans HZ1.out))
            have hs4 := hs2 (fun b => w.heap.size + 2 ≤ b) (by show ¬ w.heap.size + 2 ≤ w.heap.size; omega)
            replace HRI := Lib.hid (RdZ.out (ZE_ok n) HRI.out hs4)
            replace HRO := Lib.hid (RdZ.out (ZE_ok n) HRO.out hs4)
            replace HRW := Lib.hid (RdZ.out (ZE_ok n) HRW.out hs4)
            replace HRG := Lib.hid (RdZ.out (ZE_ok n) HRG.out hs4)
            replace HRC := Lib.hid (RdZ.out ZC_ok (HRC.out.below ZC_ok HT4.out) hs4)
            replace HRD := Lib.hid (RdZ.out ZO_ok (HRD.out.below ZO_ok HT4.out) hs4)
            replace HRR := Lib.hid (RdZ.out (ZR_ok n) (HRR.out.below (ZR_ok n) HT4.out) hs4)
            replace HRS := Lib.hid (RdZ.out (ZS_ok n) (HRS.out.below (ZS_ok n) HT4.out) hs4)
            have HBF := Lib.hid ((HBC.out.trans (HT4.out.mono (by omega))).trans hs3)
            clear hs1 hs2 hs3 hs4 q7 q9 q10 q11 f7 f9 f10 f11 hcl HX HX4 HZ1 HT1 HT2 HT3 HT4 HBC HCI HCO HCW HCG
            generalize ((((w4.setCell { block := w.heap.size, off := 7 } (Value.slice AI items.length kI)).setCell { block := w.heap.size, off := 9 } (Value.slice AO on.length kO)).setCell { block := w.heap.size, off := 10 } (Value.slice AW wh.length kW)).setCell { block := w.heap.size, off := 11 } (Value.slice AG gr.length kG)) = wf at *
            obtain ⟨x0, x1, x2, x3, x4, x5, x6, x7, x8, x9, x10, x11, x12, x13⟩ := cells14 HXF.out
            obtain ⟨z0, z1, z2, z3, z4, z5, z6, z7, z8, z9, z10, z11, z12, z13⟩ := cells14 HZF.out
            have g0 := frz14 (i := 0) HZF.out (by decide)
            have g1 := frz14 (i := 1) HZF.out (by decide)
            have g2 := frz14 (i := 2) HZF.out (by decide)
            have g3 := frz14 (i := 3) HZF.out (by decide)
            have g4 := frz14 (i := 4) HZF.out (by decide)
            have g5 := frz14 (i := 5) HZF.out (by decide)
            have g6 := frz14 (i := 6) HZF.out (by decide)
            have g7 := frz14 (i := 7) HZF.out (by decide)
            have g8 := frz14 (i := 8) HZF.out (by decide)
            have g9 := frz14 (i := 9) HZF.out (by decide)
            have g10 := frz14 (i := 10) HZF.out (by decide)
            have g11 := frz14 (i := 11) HZF.out (by decide)
            have g12 := frz14 (i := 12) HZF.out (by decide)
            have g13 := frz14 (i := 13) HZF.out (by decide)
            go_wp2_with fail
            obtain ⟨e1, e2', e3'⟩ := sets14 HZF.out (.int .i64 kind) (.string tb) (.slice AC cols.length kC') (.string key) (.string ix) (.slice AR rows.length kRR) (.slice AS sets.length kSS) (.slice AI items.length kI) (.string jn) (.slice AO on.length kO) (.slice AW wh.length kW) (.slice AG gr.length kG) (.slice AD ord.length kD') (.int .i64 lim)
            have e2 := e2' (fun b => w.heap.size + 2 ≤ b) (by show ¬ w.heap.size + 2 ≤ w.heap.size + 1; omega)
            have e3 := e3'.mono (Nat.le_succ w.heap.size)
            clear e2' e3'
            generalize ((((((((((((((wf.setCell ⟨w.heap.size + 1, 0, none⟩ (.int .i64 kind)).setCell ⟨w.heap.size + 1, 1, none⟩ (.string tb)).setCell ⟨w.heap.size + 1, 2, none⟩ (.slice AC cols.length kC')).setCell ⟨w.heap.size + 1, 3, none⟩ (.string key)).setCell ⟨w.heap.size + 1, 4, none⟩ (.string ix)).setCell ⟨w.heap.size + 1, 5, none⟩ (.slice AR rows.length kRR)).setCell ⟨w.heap.size + 1, 6, none⟩ (.slice AS sets.length kSS)).setCell ⟨w.heap.size + 1, 7, none⟩ (.slice AI items.length kI)).setCell ⟨w.heap.size + 1, 8, none⟩ (.string jn)).setCell ⟨w.heap.size + 1, 9, none⟩ (.slice AO on.length kO)).setCell ⟨w.heap.size + 1, 10, none⟩ (.slice AW wh.length kW)).setCell ⟨w.heap.size + 1, 11, none⟩ (.slice AG gr.length kG)).setCell ⟨w.heap.size + 1, 12, none⟩ (.slice AD ord.length kD')).setCell ⟨w.heap.size + 1, 13, none⟩ (.int .i64 lim)) = wl at e1 e2 e3 ⊢
            clear x0 x1 x2 x3 x4 x5 x6 x7 x8 x9 x10 x11 x12 x13 z0 z1 z2 z3 z4 z5 z6 z7 z8 z9 z10 z11 z12 z13
            obtain ⟨x0, x1, x2, x3, x4, x5, x6, x7, x8, x9, x10, x11, x12, x13⟩ := cells14 e1
            refine bodyPost_ret (v := .agg #[.int .i64 kind, .string tb, .slice AC cols.length kC', .string key, .string ix, .slice AR rows.length kRR, .slice AS sets.length kSS, .slice AI items.length kI, .string jn, .slice AO on.length kO, .slice AW wh.length kW, .slice AG gr.length kG, .slice AD ord.length kD', .int .i64 lim]) (by simp [results, Tryz.results6, go_sem, x0, x1, x2, x3, x4, x5, x6, x7, x8, x9, x10, x11, x12, x13]) rfl ⟨⟨⟨AC, kC'⟩, ⟨AR, kRR⟩, ⟨AS, kSS⟩, ⟨AI, kI⟩, ⟨AO, kO⟩, ⟨AW, kW⟩, ⟨AG, kG⟩, ⟨AD, kD'⟩⟩, rfl, RdStZ.mono (S := fun b => w.heap.size + 2 ≤ b) ⟨RdZ.out ZC_ok HRC.out e2, RdZ.out (ZR_ok n) HRR.out e2, RdZ.out (ZS_ok n) HRS.out e2, RdZ.out (ZE_ok n) HRI.out e2, RdZ.out (ZE_ok n) HRO.out e2, RdZ.out (ZE_ok n) HRW.out e2, RdZ.out (ZE_ok n) HRG.out e2, RdZ.out ZO_ok HRD.out e2⟩ (fun b hb _ => (by omega)), HBF.out.trans e3⟩

end Go.Proofs.YtipcacplphidhaaGreat.Sy
/- A list of expressions written over: the walk of SpoilExprs. Conditions: expressions that lie from the first place of blocks of their own kind, so deep. -/
namespace Go.Proofs.YtipcacplphidhaaGreat.Sy
open Go.RowKit
set_option linter.unusedSimpArgs false
set_option linter.unusedVariables false

set_option maxHeartbeats 4000000 in
set_option maxRecDepth 100000 in
theorem spoilExprs_of {n : Nat} (S : Nat → Prop) (hE : ∀ (a : Option Addr) (k c : Nat) (w : World), ShE n S w a k → Calls Tryz.prog 27 #[.slice a k c] w fun e w' => e = .returned (.tuple #[]) ∧ Zst S w w')
    (A : Option Addr) (k c : Nat) (w : World) (h : ShE (n + 1) S w A k) : Calls Tryz.prog 27 #[.slice A k c] w fun e w' => e = .returned (.tuple #[]) ∧ Zst S w w' := by
  have HE := Lib.hid hE
  have HH := Lib.hid h
  have hkm : k ≤ 9223372036854775807 := by
    rcases h with h | ⟨b, cs, e, hs, hc, hk, hm, h⟩
    · omega
    · exact hm
  clear hE h
  go_enter Tryz.func27, Tryz.ntmps27
  go_wp2_with fail
  go_loopw [2] (fun i wr => ∃ j : Nat, j ≤ k ∧ i = .int .i64 j ∧ Zst S w wr) (fun i _ => k - (intOf i).toNat)
  case atStart => exact ⟨0, by omega, rfl, Zst.refl _ _⟩
  case round =>
    obtain ⟨j, hj, rfl, hZ⟩ := hrel
    have HZ := Lib.hid hZ
    clear hZ
    by_cases hlt : j < k
    · have hjl : (j : Int) < (k : Int) := by omega
      obtain ⟨b, cs, rfl, hs, hc, hz, ⟨a, k', c', h1, h2⟩, hm⟩ := ShL.at_ (ShE.zst HH.out HZ.out) hlt
      have p6 := cell_in hc h1
      have HC := Lib.hid (HE.out a k' c' wr h2)
      have HB := Lib.hid hc
      clear hc h1 h2
      go_upto_region 4 with (go_at_call 27; (with_reducible refine HC.out.mono ?_); rintro e w1 ⟨rfl, hz1⟩; have HZ1 := Lib.hid hz1; clear hz1)
      obtain ⟨cs', hb1, hzc⟩ := HZ1.out.shape b cs _ HB.out
      have hz7 : j * 7 + 7 ≤ cs'.size := by rw [hzc.1]; exact hz
      have HB1 := Lib.hid hb1
      have HZ2 := Lib.hid (zst_E (i := j) (.int .i64 (-1)) (.int .i64 0) (.int .i64 0) (.string ⟨#[]⟩) (.string ⟨#[]⟩) (.string ⟨#[]⟩) hs hb1 hz7)
      have f0 := frozen_in (o := j * 7) hb1
      have f1 := frozen_in (o := j * 7 + 1) hb1
      have f2 := frozen_in (o := j * 7 + 2) hb1
      have f3 := frozen_in (o := j * 7 + 3) hb1
      have f4 := frozen_in (o := j * 7 + 4) hb1
      have f5 := frozen_in (o := j * 7 + 5) hb1
      have f6 := frozen_in (o := j * 7 + 6) hb1
      obtain ⟨u0, c0⟩ := cell_is (o := j * 7) hb1 (by omega)
      obtain ⟨u1, c1⟩ := cell_is (o := j * 7 + 1) hb1 (by omega)
      obtain ⟨u2, c2⟩ := cell_is (o := j * 7 + 2) hb1 (by omega)
      obtain ⟨u3, c3⟩ := cell_is (o := j * 7 + 3) hb1 (by omega)
      obtain ⟨u4, c4⟩ := cell_is (o := j * 7 + 4) hb1 (by omega)
      obtain ⟨u5, c5⟩ := cell_is (o := j * 7 + 5) hb1 (by omega)
      obtain ⟨u6, c6⟩ := cell_is (o := j * 7 + 6) hb1 (by omega)
      clear hb1 hzc
      go_wp2
      go_roundw
      case rel => exact ⟨j + 1, by omega, by go_num, (HZ.out.trans HZ1.out).trans HZ2.out⟩
      case measure => simp [intOf]; omega
    · obtain rfl : j = k := by omega
      go_wp2
      exact bodyPost_end (v := .tuple #[]) (by simp [results, Tryz.results27, go_sem]) rfl ⟨rfl, HZ.out⟩
theorem spoilExprs_any (S : Nat → Prop) : ∀ (n : Nat) (A : Option Addr) (k c : Nat) (w : World), ShE n S w A k → Calls Tryz.prog 27 #[.slice A k c] w fun e w' => e = .returned (.tuple #[]) ∧ Zst S w w'
  | 0, A, k, c, w, h => by
    have h0 : k = 0 := h
    subst h0
    exact spoilExprs_of (n := 0) S (fun a k c w h => by
      have h0 : k = 0 := h
      subst h0
      go_enter Tryz.func27, Tryz.ntmps27
      go_wp2_with fail
      go_loopw [2] (fun i wr => i = .int .i64 0 ∧ Zst S w wr) (fun i _ => 0)
      case atStart => exact ⟨rfl, Zst.refl _ _⟩
      case round =>
        obtain ⟨rfl, hZ⟩ := hrel
        have HZ := Lib.hid hZ
        clear hZ
        go_wp2
        exact bodyPost_end (v := .tuple #[]) (by simp [results, Tryz.results27, go_sem]) rfl ⟨rfl, HZ.out⟩) A 0 c w (.inl rfl)
  | n + 1, A, k, c, w, h => spoilExprs_of S (fun a k c w h => spoilExprs_any S n a k c w h) A k c w h
end Go.Proofs.YtipcacplphidhaaGreat.Sy
namespace Go.Proofs.YtipcacplphidhaaGreat.Sy
open Go.RowKit
set_option linter.unusedSimpArgs false
set_option linter.unusedVariables false

theorem ShL.few {T : TypeId} {sz k : Nat} {S : Nat → Prop} {w : World} {A : Option Addr} {Q : Array Value → Nat → Prop} (h : ShL T sz S w A k Q) : k ≤ 9223372036854775807 := by
  rcases h with h | ⟨b, cs, e, hs, hc, hk, hm, h⟩
  · omega
  · exact hm
set_option maxHeartbeats 16000000 in
set_option maxRecDepth 100000 in
theorem spoilStmt_any {n : Nat} (x : St n) (h : Hs) (S : Nat → Prop) (w : World) (hr : RdStZ S w x h) (hS : ∀ b, S b → b < w.heap.size) :
    Calls Tryz.prog 9 #[x.val h] w fun e w' => e = .returned (.tuple #[]) ∧ Zst S w w' := by
  have hb1 := below1 w (.cells (x.cs h) 31)
  have HZ0 := Lib.hid (Zst.of_below (S := S) hb1)
  have HX1 := Lib.hid (heap_alloc_new w (.cells (x.cs h) 31))
  have hrb := hr.below hb1
  have HC := Lib.hid (show ShC S _ _ _ from hrb.C.2)
  have HR := Lib.hid (show ShR n S _ _ _ from hrb.R.2)
  have HSS := Lib.hid (show ShS n S _ _ _ from hrb.S.2)
  have HD := Lib.hid (show ShO S _ _ _ from hrb.D.2)
  have HI := Lib.hid (show ShE n S _ _ _ from hrb.I.2)
  have HO := Lib.hid (show ShE n S _ _ _ from hrb.O.2)
  have HW := Lib.hid (show ShE n S _ _ _ from hrb.W.2)
  have HG := Lib.hid (show ShE n S _ _ _ from hrb.G.2)
  have mC := HC.out.few
  have mR := HR.out.few
  have mS := HSS.out.few
  have mD := HD.out.few
  have hsz : w.heap.size < (w.alloc (.cells (x.cs h) 31)).heap.size := by simp
  have HNS : Hid (¬ S w.heap.size) := Lib.hid (fun hs => Nat.lt_irrefl _ (hS _ hs))
  clear hr hrb hb1 hS
  obtain ⟨kd, tb, cols, key, ix, rows, sets, items, jn, on, wh, gr, ord, lim⟩ := x
  obtain ⟨⟨aC, cC⟩, ⟨aR, cR⟩, ⟨aS, cS⟩, ⟨aI, cI⟩, ⟨aO, cO⟩, ⟨aW, cW⟩, ⟨aG, cG⟩, ⟨aD, cD⟩⟩ := h
  dsimp only [St.cs, St.val] at *
  go_enter Tryz.func9, Tryz.ntmps9
  go_upto_region 1 with fail
  generalize hw1 : w.alloc (.cells #[.int .i64 kd, .string tb, .slice aC cols.length cC, .string key, .string ix, .slice aR rows.length cR, .slice aS sets.length cS, .slice aI items.length cI, .string jn, .slice aO on.length cO, .slice aW wh.length cW, .slice aG gr.length cG, .slice aD ord.length cD, .int .i64 lim] 31) = w1 at *
  clear hw1

  have HZa := Lib.hid (Zst.refl S w1)
  obtain ⟨y0, y1, y2, y3, y4, y5, y6, y7, y8, y9, y10, y11, y12, y13⟩ := cells14 ((HZa.out.out w.heap.size hsz HNS.out).trans HX1.out)
  go_wp2_with fail
  clear y0 y1 y2 y3 y4 y5 y6 y7 y8 y9 y10 y11 y12 y13
  go_loopw [2] (fun i wr => ∃ j : Nat, j ≤ cols.length ∧ i = .int .i64 j ∧ Zst S w1 wr) (fun i _ => cols.length - (intOf i).toNat)
  case atStart => exact ⟨0, by omega, rfl, HZa.out⟩
  case round =>
    obtain ⟨j, hj, rfl, hZ⟩ := hrel
    have HZC := Lib.hid hZ
    clear hZ
    obtain ⟨y0, y1, y2, y3, y4, y5, y6, y7, y8, y9, y10, y11, y12, y13⟩ := cells14 ((HZC.out.out w.heap.size hsz HNS.out).trans HX1.out)
    by_cases hlt : j < cols.length
    · have hjl : (j : Int) < (cols.length : Int) := by omega
      obtain ⟨b, cs, rfl, hs, hc, hz, _, _⟩ := ShL.at_ (ShC.zst HC.out HZC.out) hlt
      have f0 := frozen_in (o := j * 3) hc
      have f1 := frozen_in (o := j * 3 + 1) hc
      have f2 := frozen_in (o := j * 3 + 2) hc
      obtain ⟨u0, c0⟩ := cell_is (o := j * 3) hc (by omega)
      obtain ⟨u1, c1⟩ := cell_is (o := j * 3 + 1) hc (by omega)
      obtain ⟨u2, c2⟩ := cell_is (o := j * 3 + 2) hc (by omega)
      have HZ2 := Lib.hid (zst_C (i := j) (.string ⟨#[]⟩) (.int .i64 0) (.bool false) hs hc hz)
      clear hc
      go_wp2
      go_roundw
      case rel => exact ⟨j + 1, by omega, by go_num, HZC.out.trans HZ2.out⟩
      case measure => simp [intOf]; omega
    · obtain rfl : j = cols.length := by omega
      clear hlt hj
      go_wp2_with fail
      clear y0 y1 y2 y3 y4 y5 y6 y7 y8 y9 y10 y11 y12 y13
      go_loopw [3] (fun i wr => ∃ j : Nat, j ≤ rows.length ∧ i = .int .i64 j ∧ Zst S w1 wr) (fun i _ => rows.length - (intOf i).toNat)
      case atStart => exact ⟨0, by omega, rfl, HZC.out⟩
      case round =>
        obtain ⟨j, hj, rfl, hZ⟩ := hrel
        have HZR := Lib.hid hZ
        clear hZ
        obtain ⟨y0, y1, y2, y3, y4, y5, y6, y7, y8, y9, y10, y11, y12, y13⟩ := cells14 ((HZR.out.out w.heap.size hsz HNS.out).trans HX1.out)
        by_cases hlt : j < rows.length
        · have hjl : (j : Int) < (rows.length : Int) := by omega
          obtain ⟨b, cs, rfl, hs, hc, hz, ⟨a, k, c, h1, h2⟩, _⟩ := ShL.at_ (ShR.zst HR.out HZR.out) hlt
          have p0 := cell_in hc h1
          have HE := Lib.hid (spoilExprs_any S n a k c wr h2)
          clear hc h1 h2
          go_wp2_with (go_at_call 27; (with_reducible refine HE.out.mono ?_); rintro e w2 ⟨rfl, hz1⟩; have HZ2 := Lib.hid hz1; clear hz1)
          go_roundw
          case rel => exact ⟨j + 1, by omega, by go_num, HZR.out.trans HZ2.out⟩
          case measure => simp [intOf]; omega
        · obtain rfl : j = rows.length := by omega
          clear hlt hj
          go_wp2_with fail
          clear y0 y1 y2 y3 y4 y5 y6 y7 y8 y9 y10 y11 y12 y13
          go_loopw [4] (fun i wr => ∃ j : Nat, j ≤ sets.length ∧ i = .int .i64 j ∧ Zst S w1 wr) (fun i _ => sets.length - (intOf i).toNat)
          case atStart => exact ⟨0, by omega, rfl, HZR.out⟩
          case round =>
            obtain ⟨j, hj, rfl, hZ⟩ := hrel
            have HZS := Lib.hid hZ
            clear hZ
            obtain ⟨y0, y1, y2, y3, y4, y5, y6, y7, y8, y9, y10, y11, y12, y13⟩ := cells14 ((HZS.out.out w.heap.size hsz HNS.out).trans HX1.out)
            by_cases hlt : j < sets.length
            · have hjl : (j : Int) < (sets.length : Int) := by omega
              obtain ⟨b, cs, rfl, hs, hc, hz, ⟨a, k, c, h1, h2⟩, _⟩ := ShL.at_ (ShS.zst HSS.out HZS.out) hlt
              have p7 := cell_in hc h1
              have HE := Lib.hid (spoilExprs_any S n a k c wr h2)
              have HB := Lib.hid hc
              clear hc h1 h2
              go_upto_region 13 with (go_at_call 27; (with_reducible refine HE.out.mono ?_); rintro e w2 ⟨rfl, hz1⟩; have HZ1 := Lib.hid hz1; clear hz1)
              obtain ⟨cs2, hb2, hzc⟩ := HZ1.out.shape b cs _ HB.out
              have hz8 : j * 8 + 8 ≤ cs2.size := by rw [hzc.1]; exact hz
              have HT := Lib.hid (HZS.out.trans HZ1.out)
              clear y0 y1 y2 y3 y4 y5 y6 y7 y8 y9 y10 y11 y12 y13
              obtain ⟨y0, y1, y2, y3, y4, y5, y6, y7, y8, y9, y10, y11, y12, y13⟩ := cells14 ((HT.out.out w.heap.size hsz HNS.out).trans HX1.out)
              have f0 := frozen_in (o := j * 8) hb2
              have f1 := frozen_in (o := j * 8 + 1) hb2
              have f2 := frozen_in (o := j * 8 + 2) hb2
              have f3 := frozen_in (o := j * 8 + 3) hb2
              have f4 := frozen_in (o := j * 8 + 4) hb2
              have f5 := frozen_in (o := j * 8 + 5) hb2
              have f6 := frozen_in (o := j * 8 + 6) hb2
              have f7 := frozen_in (o := j * 8 + 7) hb2
              obtain ⟨u0, c0⟩ := cell_is (o := j * 8) hb2 (by omega)
              obtain ⟨u1, c1⟩ := cell_is (o := j * 8 + 1) hb2 (by omega)
              obtain ⟨u2, c2⟩ := cell_is (o := j * 8 + 2) hb2 (by omega)
              obtain ⟨u3, c3⟩ := cell_is (o := j * 8 + 3) hb2 (by omega)
              obtain ⟨u4, c4⟩ := cell_is (o := j * 8 + 4) hb2 (by omega)
              obtain ⟨u5, c5⟩ := cell_is (o := j * 8 + 5) hb2 (by omega)
              obtain ⟨u6, c6⟩ := cell_is (o := j * 8 + 6) hb2 (by omega)
              obtain ⟨u7, c7⟩ := cell_is (o := j * 8 + 7) hb2 (by omega)
              have HZ2 := Lib.hid (zst_S (i := j) (.string ⟨#[]⟩) (.int .i64 0) (.int .i64 0) (.int .i64 0) (.string ⟨#[]⟩) (.string ⟨#[]⟩) (.string ⟨#[]⟩) hs hb2 hz8)
              clear hb2 hzc
              go_wp2
              go_roundw
              case rel => exact ⟨j + 1, by omega, by go_num, HT.out.trans HZ2.out⟩
              case measure => simp [intOf]; omega
            · obtain rfl : j = sets.length := by omega
              clear hlt hj
              go_wp2_with fail
              clear y0 y1 y2 y3 y4 y5 y6 y7 y8 y9 y10 y11 y12 y13
              go_loopw [5] (fun i wr => ∃ j : Nat, j ≤ ord.length ∧ i = .int .i64 j ∧ Zst S w1 wr) (fun i _ => ord.length - (intOf i).toNat)
              case atStart => exact ⟨0, by omega, rfl, HZS.out⟩
              case round =>
                obtain ⟨j, hj, rfl, hZ⟩ := hrel
                have HZD := Lib.hid hZ
                clear hZ
                obtain ⟨y0, y1, y2, y3, y4, y5, y6, y7, y8, y9, y10, y11, y12, y13⟩ := cells14 ((HZD.out.out w.heap.size hsz HNS.out).trans HX1.out)
                by_cases hlt : j < ord.length
                · have hjl : (j : Int) < (ord.length : Int) := by omega
                  obtain ⟨b, cs, rfl, hs, hc, hz, _, _⟩ := ShL.at_ (ShO.zst HD.out HZD.out) hlt
                  have f0 := frozen_in (o := j * 2) hc
                  have f1 := frozen_in (o := j * 2 + 1) hc
                  obtain ⟨u0, c0⟩ := cell_is (o := j * 2) hc (by omega)
                  obtain ⟨u1, c1⟩ := cell_is (o := j * 2 + 1) hc (by omega)
                  have HZ2 := Lib.hid (zst_O (i := j) (.int .i64 0) (.bool false) hs hc hz)
                  clear hc
                  go_wp2
                  go_roundw
                  case rel => exact ⟨j + 1, by omega, by go_num, HZD.out.trans HZ2.out⟩
                  case measure => simp [intOf]; omega
                · obtain rfl : j = ord.length := by omega
                  clear hlt hj
                  have HEI := Lib.hid (spoilExprs_any S n aI items.length cI _ (ShE.zst HI.out HZD.out))
                  go_upto_region 19 with (go_at_call 27; (with_reducible refine HEI.out.mono ?_); rintro e w2 ⟨rfl, hz1⟩; have HZ2 := Lib.hid (HZD.out.trans hz1); clear hz1)
                  clear y0 y1 y2 y3 y4 y5 y6 y7 y8 y9 y10 y11 y12 y13
                  obtain ⟨y0, y1, y2, y3, y4, y5, y6, y7, y8, y9, y10, y11, y12, y13⟩ := cells14 ((HZ2.out.out w.heap.size hsz HNS.out).trans HX1.out)
                  have HEO := Lib.hid (spoilExprs_any S n aO on.length cO _ (ShE.zst HO.out HZ2.out))
                  go_upto_region 20 with (go_at_call 27; (with_reducible refine HEO.out.mono ?_); rintro e w3 ⟨rfl, hz1⟩; have HZ3 := Lib.hid (HZ2.out.trans hz1); clear hz1)
                  clear y0 y1 y2 y3 y4 y5 y6 y7 y8 y9 y10 y11 y12 y13
                  obtain ⟨y0, y1, y2, y3, y4, y5, y6, y7, y8, y9, y10, y11, y12, y13⟩ := cells14 ((HZ3.out.out w.heap.size hsz HNS.out).trans HX1.out)
                  have HEW := Lib.hid (spoilExprs_any S n aW wh.length cW _ (ShE.zst HW.out HZ3.out))
                  go_upto_region 21 with (go_at_call 27; (with_reducible refine HEW.out.mono ?_); rintro e w4 ⟨rfl, hz1⟩; have HZ4 := Lib.hid (HZ3.out.trans hz1); clear hz1)
                  clear y0 y1 y2 y3 y4 y5 y6 y7 y8 y9 y10 y11 y12 y13
                  obtain ⟨y0, y1, y2, y3, y4, y5, y6, y7, y8, y9, y10, y11, y12, y13⟩ := cells14 ((HZ4.out.out w.heap.size hsz HNS.out).trans HX1.out)
                  have HEG := Lib.hid (spoilExprs_any S n aG gr.length cG _ (ShE.zst HG.out HZ4.out))
                  go_wp2_with (go_at_call 27; (with_reducible refine HEG.out.mono ?_); rintro e w5 ⟨rfl, hz1⟩; have HZ5 := Lib.hid (HZ4.out.trans hz1); clear hz1)
                  exact bodyPost_end (v := .tuple #[]) (by simp [results, Tryz.results9, go_sem]) rfl ⟨rfl, HZ0.out.trans HZ5.out⟩
end Go.Proofs.YtipcacplphidhaaGreat.Sy
