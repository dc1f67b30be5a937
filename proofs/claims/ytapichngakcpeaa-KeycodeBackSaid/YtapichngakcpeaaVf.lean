/- What Encode makes of a list: the walk. Conditions: numbers of 64 bits. -/
import Derived.Test.YtapichngakcpeaaVe
namespace Go.Proofs.Ytapichngakcpeaa
open Go.RowKit
set_option linter.unusedSimpArgs false
set_option linter.unusedVariables false

/-- The three cells of a value at p. -/
def Cell3 (w : World) (p : Addr) (v : Vl) : Prop := w.cell? p = some (.int .i64 v.k) ∧ w.cell? ⟨p.block, p.off + 1, none⟩ = some (.int .i64 v.n) ∧ w.cell? ⟨p.block, p.off + 2, none⟩ = some (.string v.s)
/-- The slice at A reads as the list l; it lies below block B. -/
def RdL (w : World) (B : Nat) (A : Option Addr) (l : List Vl) : Prop :=
  l ≠ [] → ∃ ad, A = some ad ∧ ad.block < B ∧ ∀ j v, l[j]? = some v → Cell3 w (ad.add (j * 3)) v
theorem add_block (a : Addr) (n : Nat) : (a.add n).block = a.block := by unfold Addr.add; split <;> rfl
theorem Cell3.below {w w' : World} {p : Addr} {v : Vl} {B : Nat} (h : Cell3 w p v) (hb : Below B w w') (hp : p.block < B) : Cell3 w' p v :=
  ⟨(hb.cell hp).trans h.1, (hb.cell (p := ⟨p.block, p.off + 1, none⟩) hp).trans h.2.1, (hb.cell (p := ⟨p.block, p.off + 2, none⟩) hp).trans h.2.2⟩
theorem RdL.below {w w' : World} {B : Nat} {A : Option Addr} {l : List Vl} (h : RdL w B A l) (hb : Below B w w') : RdL w' B A l := fun hl => by
  obtain ⟨ad, e, hlt, hc⟩ := h hl
  exact ⟨ad, e, hlt, fun j v hj => (hc j v hj).below hb (by rw [add_block]; exact hlt)⟩
theorem RdL.more {w : World} {B B' : Nat} {A : Option Addr} {l : List Vl} (h : RdL w B A l) (hB : B ≤ B') : RdL w B' A l := fun hl => by
  obtain ⟨ad, e, hlt, hc⟩ := h hl
  exact ⟨ad, e, by omega, hc⟩
theorem RdL.at_ {w : World} {B : Nat} {A : Option Addr} {l : List Vl} {j : Nat} (h : RdL w B A l) (hj : j < l.length) : ∃ ad, A = some ad ∧ ad.block < B ∧ Cell3 w (ad.add (j * 3)) l[j] := by
  obtain ⟨ad, e, hlt, hc⟩ := h (by intro e; subst e; simp at hj)
  exact ⟨ad, e, hlt, hc j _ (List.getElem?_eq_getElem hj)⟩

theorem ownsRow_below {base size n : Nat} {e : TypeId} {v : Value} {xs : List Value} {W w' : World} (hb : Below W.heap.size W w') (h : W.ownsRow base e size v n xs) : w'.ownsRow base e size v n xs :=
  h.kept (row := none) ⟨hb.os, hb.tape, hb.output, hb.size, fun k hk _ => hb.block k hk⟩ (by cases hv : v.ownBlock <;> simp)
theorem Grew.below {base : Nat} {w w0 w' : World} {v v' : Value} {l : List UInt8} {n : Nat} {xs : List Value} (h : Grew base w v w' v' l) (hb : Below base w0 w) (hz : base ≤ w.heap.size) (hown : w.ownsRow base 5 1 v n xs) : Below base w0 w' :=
  hb.grown h.grown hz fun k hk => (hown.lt k hk).1

theorem conv_nil (w : World) : (convert 39 9 (.slice none 0 0)).run Try.prog w = .ok (.string ⟨#[]⟩) w := by kernel_rfl
theorem conv_own {w : World} {base : Nat} {v : Value} {l : List UInt8} (h : w.ownsRow base 5 1 v l.length (bys l)) : (convert 39 9 v).run Try.prog w = .ok (.string ⟨l.toArray⟩) w := by
  rcases h.2 with ⟨rfl, h0⟩ | ⟨g, cap, cur, rfl, hb, hg, hc, hm, hs, ht⟩
  · have : l = [] := List.eq_nil_of_length_eq_zero h0
    subst this
    exact conv_nil w
  · refine run_convert_bytes_back w 39 9 5 ⟨g, 0, none⟩ cap l Try.underlying39 Try.underlying5 Try.underlying9 fun j hj => ?_
    have := h.cells (g := g) rfl j (.int .u8 (l[j].toNat : Int)) (by simp [bys, List.getElem?_eq_getElem hj])
    exact this

def okB (v : Vl) : Bool := mayB v.k v.n v.s
/-- The error's number of Encode. -/
def encE (l : List Vl) : Int := if 64 < l.length then 3 else if l.all okB = true then 0 else 9
def encT (l : List Vl) : List UInt8 := if encE l = 0 then encL l else []
def numsL (l : List Vl) : Prop := ∀ v ∈ l, inR v.n = true
theorem encE_all {l : List Vl} (hn : numsL l) (h : encE l = 0) : okL l ∧ l.length ≤ 64 := by
  unfold encE at h
  split at h
  · omega
  · split at h
    · rename_i h1 h2
      exact ⟨fun v hv => ⟨by have := List.all_eq_true.1 h2 v hv; exact this, hn v hv⟩, by omega⟩
    · omega
theorem enc1_len {v : Vl} (h : okV v) : (enc1 v).length ≤ 130 := by
  rcases mayB_kind h.1 with e | e | e | e
  · simp [enc1, e]
  · have := need8 h.2
    simp [enc1, e, enc1_length_num _ h.2]; omega
  · simp [enc1, e]
  · have h1 := (mayB3 h.1 e).2
    have h2 := esc_len v.s.data.toList
    have h3 : v.s.data.toList.length = v.s.size := by simp
    simp [enc1, e, textK]; omega
theorem encL_len {l : List Vl} (h : okL l) : (encL l).length ≤ 130 * l.length := by
  induction l with
  | nil => simp [encL]
  | cons v l ih =>
    have h1 := enc1_len (h v (by simp))
    have h2 := ih fun v hv => h v (by simp [hv])
    simp [encL]; omega

theorem check_ok (k n : Int) (s : ByteArray) (w : World) (h : mayB k n s = true) :
    Calls Try.prog 17 #[.agg #[.int .i64 k, .int .i64 n, .string s]] w fun e w' => e = .returned (.int .i64 0) ∧ Below w.heap.size w w' :=
  (check_any k n s w).mono fun _ _ ⟨h1, h2⟩ => ⟨by rw [h1]; simp [checkN, h], h2⟩
theorem check_no (k n : Int) (s : ByteArray) (w : World) (h : mayB k n s = false) :
    Calls Try.prog 17 #[.agg #[.int .i64 k, .int .i64 n, .string s]] w fun e w' => e = .returned (.int .i64 9) ∧ Below w.heap.size w w' :=
  (check_any k n s w).mono fun _ _ ⟨h1, h2⟩ => ⟨by rw [h1]; simp [checkN, h], h2⟩

set_option maxHeartbeats 1000000 in
theorem encode_long (A : Option Addr) (n c : Nat) (w : World) (h : 64 < n) :
    Calls Try.prog 10 #[.slice A n c] w fun e w' => e = .returned (.tuple #[.string ⟨#[]⟩, .int .i64 3]) ∧ w = w' := by
  go_enter Try.func10, Try.ntmps10
  go_wp2
  go_ret2
  exact ⟨rfl, rfl⟩

theorem encL_take {l : List Vl} {j : Nat} (h : j < l.length) : encL (l.take (j + 1)) = encL (l.take j) ++ enc1 l[j] := by
  rw [List.take_succ_eq_append_getElem h, encL_append]; simp [encL]
theorem okL_take {l : List Vl} {j : Nat} (h : j < l.length) (h1 : okL (l.take j)) (h2 : okV l[j]) : okL (l.take (j + 1)) := by
  rw [List.take_succ_eq_append_getElem h]
  intro v hv
  rcases List.mem_append.1 hv with hv | hv
  · exact h1 v hv
  · simp at hv; subst hv; exact h2
theorem encE_no {l : List Vl} {j : Nat} (h : j < l.length) (hl : l.length ≤ 64) (hm : mayB l[j].k l[j].n l[j].s = false) : encE l = 9 := by
  unfold encE
  rw [if_neg (by omega), if_neg]
  intro h'
  have := List.all_eq_true.1 h' l[j] (List.getElem_mem h)
  simp [okB, hm] at this
theorem encE_yes {l : List Vl} (hl : l.length ≤ 64) (h : okL l) : encE l = 0 := by
  unfold encE
  rw [if_neg (by omega), if_pos]
  exact List.all_eq_true.2 fun v hv => (h v hv).1

set_option maxHeartbeats 2000000 in
theorem encode_some (A : Option Addr) (c : Nat) (l : List Vl) (w : World) (hr : RdL w w.heap.size A l) (hn : numsL l) (hl : l.length ≤ 64) :
    Calls Try.prog 10 #[.slice A l.length c] w fun e w' => e = .returned (.tuple #[.string ⟨(encT l).toArray⟩, .int .i64 (encE l)]) ∧ Below w.heap.size w w' := by
  have HR := Lib.hid hr
  clear hr
  go_enter Try.func10, Try.ntmps10
  go_wp2_with fail
  go_loopw [4, 6, 12] (fun v i c wr => ∃ j : Nat, j ≤ l.length ∧ c = .int .i64 j ∧ okL (l.take j) ∧ wr.ownsRow w.heap.size 5 1 v (encL (l.take j)).length (bys (encL (l.take j))) ∧ Below w.heap.size w wr ∧ w.heap.size ≤ wr.heap.size) (fun _ _ c _ => l.length - (intOf c).toNat)
  case atStart => exact ⟨0, by omega, rfl, by simp [okL], World.ownsRow_nil _ _ _ _, Below.refl _ _, by omega⟩
  case round =>
    obtain ⟨j, hj, rfl, hok, hown, hB, hz⟩ := hrel
    have HOwn := Lib.hid hown
    have HB := Lib.hid hB
    have HK := Lib.hid hok
    clear hown hB hok
    by_cases hlt : j < l.length
    · obtain ⟨ad, rfl, hb, hc⟩ := (HR.out.below HB.out).at_ hlt
      obtain ⟨k0, k1, k2⟩ := hc
      by_cases hm : mayB l[j].k l[j].n l[j].s = true
      · have HM := Lib.hid hm
        clear hm
        have HV : okV l[j] := ⟨HM.out, hn _ (List.getElem_mem hlt)⟩
        have HV := Lib.hid HV
        have hL : (encL (l.take j)).length ≤ 50000 := by
          have h1 := encL_len HK.out
          have h2 : (l.take j).length ≤ j := List.length_take_le _ _
          omega
        go_wp2_with (first | (go_at_call 17; refine (check_ok _ _ _ _ HM.out).mono ?_; rintro e w1 ⟨rfl, hb1⟩; obtain ⟨hcc, hff⟩ := bcell hb1; have hz1 : wr.heap.size < w1.heap.size := (by have := hb1.size; simp at this; omega); have HOwn1 := Lib.hid (ownsRow_below hb1 (HOwn.out.alloc _)); have HB1 := Lib.hid ((HB.out.alloc hz _).trans (hb1.mono (by simp; omega))); clear hb1) | (go_at_call 18; refine (appendValue_any w.heap.size _ _ l[j] _ HV.out hL HOwn1.out ?_).mono ?_; (omega); rintro e w2 ⟨v2, rfl, hG⟩; have HG := Lib.hid hG; clear hG))
        go_roundw
        case rel => exact ⟨j + 1, by omega, by go_num, okL_take hlt HK.out HV.out, by rw [encL_take hlt]; exact HG.out.own, HG.out.below HB1.out (by omega) HOwn1.out, by have := HG.out.grown.size; omega⟩
        case measure => simp [intOf]; omega
      · have hm' : mayB l[j].k l[j].n l[j].s = false := by simpa using hm
        have HM := Lib.hid hm'
        have HE : Hid (encE l = 9) := encE_no hlt hl hm'
        clear hm hm'
        go_wp2_with (go_at_call 17; refine (check_no _ _ _ _ HM.out).mono ?_; rintro e w1 ⟨rfl, hb1⟩; obtain ⟨hcc, hff⟩ := bcell hb1; have hz1 : wr.heap.size < w1.heap.size := (by have := hb1.size; simp at this; omega); have HB1 := Lib.hid ((HB.out.alloc hz _).trans (hb1.mono (by simp; omega))); clear hb1)
        go_ret2
        exact ⟨by rw [HE.out]; simp [encT, HE.out], HB1.out⟩
    · have e : j = l.length := by omega
      have hT : l.take j = l := List.take_of_length_le (by omega)
      have HT := Lib.hid hT
      have hcv := conv_own HOwn.out
      have HE : Hid (encE l = 0) := encE_yes hl (by rw [← hT]; exact HK.out)
      clear hT e
      go_wp2
      go_ret2
      exact ⟨by rw [HE.out, HT.out]; simp [encT, HE.out], HB.out⟩

theorem encode_any (A : Option Addr) (c n : Nat) (l : List Vl) (w : World) (hlen : n = l.length) (hr : RdL w w.heap.size A l) (hn : numsL l) :
    Calls Try.prog 10 #[.slice A n c] w fun e w' => e = .returned (.tuple #[.string ⟨(encT l).toArray⟩, .int .i64 (encE l)]) ∧ Below w.heap.size w w' := by
  subst hlen
  by_cases h : 64 < l.length
  · refine (encode_long A l.length c w h).mono fun e w' ⟨h1, h2⟩ => ⟨?_, by subst h2; exact Below.refl _ _⟩
    have he : encE l = 3 := by simp [encE, h]
    rw [h1, he]; simp [encT, he]
  · exact encode_some A c l w hr hn (by omega)

end Go.Proofs.Ytapichngakcpeaa
