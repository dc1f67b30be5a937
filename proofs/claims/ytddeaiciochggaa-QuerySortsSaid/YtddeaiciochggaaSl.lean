/- slices.stableCmpFunc and slices.SortStableFunc over a list of lists in memory of the call's own: the walks. Conditions: a comparison that orders, like ones left as they are. -/
import Derived.Test.YtddeaiciochggaaSj
import Derived.Test.YtddeaiciochggaaSk
namespace Go.Proofs.Ytddeaiciochggaa.So
open Go.RowKit Go.Sort
set_option linter.unusedSimpArgs false
set_option linter.unusedVariables false

theorem merge_all {α : Type} (f : α → Sl) (cm : α → α → Int) (ok : α → Prop) (hw : Wk (ltc cm)) (g N c : Nat) (q : Value) (w0 : World) : ∀ n, MrgAll f cm ok g N c q w0 n
  | 0 => fun a m b ai mi bi P A B S w hn => absurd hn (by omega)
  | n + 1 => fun a m b ai mi bi P A B S w hn e1 e2 e3 h => by
    subst e1 e2 e3
    have hA := h.a0
    have hB := h.b0
    by_cases h1 : A.length = 1
    · obtain ⟨x, rfl⟩ := List.length_eq_one_iff.1 h1
      exact merge_left f cm ok hw g a m b c N P x B S q w0 w h
    · by_cases h2 : B.length = 1
      · obtain ⟨x, rfl⟩ := List.length_eq_one_iff.1 h2
        exact merge_right f cm ok hw g a m b c N P A x S q w0 w h h1
      · have ih := merge_all f cm ok hw g N c q w0 n
        exact merge_both f cm ok hw g a m b c N P A B S q w0 w h h1 h2 (fun a m b ai mi bi P' A' B' S' w' hn' => ih a m b ai mi bi P' A' B' S' w' (by omega))
theorem insertion_i {α : Type} (f : α → Sl) (cm : α → α → Int) (ok : α → Prop) (hw : Wk (ltc cm)) (ai bi : Int) (g a b c N : Nat) (P A S : List (α × Nat)) (q : Value) (w0 w : World) (ea : ai = a) (eb : bi = b) (hC : CmpC g w0 ok f cm q) (hD : Dt w g (dt f (P ++ A ++ S))) (hG : Gr g w0 w)
    (ha : a = P.length) (hb : b = a + A.length) (hok : ∀ x ∈ A, ok x.1) (ht : A.Pairwise fun x y => x.2 < y.2) (hN : N = (P ++ A ++ S).length) (hm : N ≤ 140737488355328) :
    Calls Try.prog 101 #[.slice (some ⟨g, 0, none⟩) N c, .int .i64 ai, .int .i64 bi, .func (.func 63) #[] #[q]] w (InsPost (ltc cm) f g w0 P A S) := by
  subst ea eb
  exact insertion_any f cm ok hw g a b c N P A S q w0 w hC hD hG ha hb hok ht hN hm
theorem int_eq {a b : Int} (h : a = b) : Value.int .i64 a = .int .i64 b := by rw [h]
/-- Where the loops stand. -/
def Lp1 {α : Type} (lt : α → α → Bool) (f : α → Sl) (g : Nat) (w0 : World) (T : List (α × Nat)) (a b : Value) (wr : World) : Prop :=
  ∃ TY T2 Y, T = TY ++ T2 ∧ Pre lt 20 TY Y ∧ a = .int .i64 Y.length ∧ b = .int .i64 (Y.length + 20 : Nat) ∧ Dt wr g (dt f (Y ++ T2)) ∧ Gr g w0 wr
def Lp2 {α : Type} (lt : α → α → Bool) (f : α → Sl) (g : Nat) (w0 : World) (T : List (α × Nat)) (N : Nat) (s : Value) (wr : World) : Prop :=
  ∃ (bs : Nat) (D : List (α × Nat)), s = .int .i64 bs ∧ 1 ≤ bs ∧ bs ≤ 2 * N + 20 ∧ CE lt bs T D ∧ Dt wr g (dt f D) ∧ Gr g w0 wr
def Lp3 {α : Type} (lt : α → α → Bool) (f : α → Sl) (g : Nat) (w0 : World) (T : List (α × Nat)) (bs : Nat) (a b : Value) (wr : World) : Prop :=
  ∃ TY T2 Y D2, T = TY ++ T2 ∧ Pre lt (2 * bs) TY Y ∧ CE lt bs T2 D2 ∧ a = .int .i64 Y.length ∧ b = .int .i64 (Y.length + 2 * bs : Nat) ∧ Dt wr g (dt f (Y ++ D2)) ∧ Gr g w0 wr
def StPost {α : Type} (lt : α → α → Bool) (f : α → Sl) (g : Nat) (w0 : World) (l : List α) (e : Ending) (w' : World) : Prop :=
  e = .returned (.tuple #[]) ∧ Dt w' g ((sortL lt l).map f) ∧ Gr g w0 w'
set_option maxRecDepth 100000 in
set_option maxHeartbeats 16000000 in
theorem stable_any {α : Type} (f : α → Sl) (cm : α → α → Int) (ok : α → Prop) (hw : Wk (ltc cm)) (g c N : Nat) (l : List α) (q : Value) (w0 w : World) (hC : CmpC g w0 ok f cm q) (hD : Dt w g (l.map f)) (hG : Gr g w0 w)
    (hok : ∀ x ∈ l, ok x) (hN : N = l.length) (hm : N ≤ 140737488355328) :
    Calls Try.prog 79 #[.slice (some ⟨g, 0, none⟩) N c, .int .i64 N, .func (.func 63) #[] #[q]] w (StPost (ltc cm) f g w0 l) := by
  obtain ⟨T, hT⟩ : ∃ T, T = tag l 0 := ⟨_, rfl⟩
  have hT1 : l.map f = dt f T := by
    have e := congrArg (List.map f) (tag_fst l 0)
    rw [List.map_map] at e
    rw [hT]
    exact e.symm
  have hTN : N = T.length := by rw [hT, tag_len]; exact hN
  have hTok : ∀ x ∈ T, ok x.1 := fun x hx => hok _ (tag_mem (hT ▸ hx)).2.2
  have hTr : Ris T := hT ▸ ris_tag l 0
  rw [hT1] at hD
  have HT := Lib.hid hT
  have HTN := Lib.hid hTN
  have HTO := Lib.hid hTok
  have HTR := Lib.hid hTr
  have HC := Lib.hid hC
  have HD := Lib.hid hD
  have HG := Lib.hid hG
  clear hT hT1 hTN hTok hTr hC hD hG hN hok
  go_enter Try.func79, Try.ntmps79
  go_wp2
  go_loopw [7, 8] (fun a b wr => Lp1 (ltc cm) f g w0 T a b wr) (fun a b _ => N + 20 - (intOf b).toNat)
  case atStart => exact ⟨[], T, [], rfl, Pre.none _ _, rfl, rfl, HD.out, HG.out⟩
  case round =>
    obtain ⟨TY, T2, Y, hTe, hP, rfl, rfl, hD, hG⟩ := hrel
    have HTE := Lib.hid hTe
    have HP := Lib.hid hP
    have HD1 := Lib.hid hD
    have HG1 := Lib.hid hG
    have hlY : Y.length + T2.length = N := by rw [HTN.out, hTe]; simp [hP.1]
    have HLY := Lib.hid hlY
    have hYN : Y.length ≤ N := by omega
    clear hTe hP hD hG hlY
    by_cases hle : Y.length + 20 ≤ N
    · have hleI : (Y.length : Int) + 20 ≤ (N : Int) := by omega
      have h20 : (T2.take 20).length = 20 := by rw [List.length_take]; have := HLY.out; omega
      have hr2 : Ris (T2.take 20) := by
        have := HTR.out
        rw [HTE.out] at this
        exact List.Pairwise.sublist (List.take_sublist _ _) (List.pairwise_append.1 this).2.1
      have HIN := Lib.hid (insertion_i f cm ok hw Y.length (Y.length + 20) g Y.length (Y.length + 20) c N Y (T2.take 20) (T2.drop 20) q w0 wr rfl (by omega) HC.out (by rw [List.append_assoc, List.take_append_drop]; exact HD1.out) HG1.out rfl (by rw [h20]) (fun x hx => HTO.out x (by rw [HTE.out]; exact List.mem_append_right _ (List.mem_of_mem_take hx))) hr2 (by rw [List.append_assoc, List.take_append_drop]; simp; exact HLY.out.symm) hm)
      have H20 := Lib.hid h20
      clear h20 hr2
      go_wp2_with (go_at_call 101; (with_reducible refine HIN.out.mono ?_); rintro e w2 ⟨C, rfl, hc1, hc2, hd, hg⟩; have HC1 := Lib.hid hc1; have HC2 := Lib.hid hc2; have HD4 := Lib.hid hd; have HG4 := Lib.hid hg; clear hc1 hc2 hd hg)
      go_roundw
      case rel =>
        have hl : C.length = 20 := by rw [HC2.out.length_eq]; exact H20.out
        exact ⟨TY ++ T2.take 20, T2.drop 20, Y ++ C, by rw [List.append_assoc, List.take_append_drop]; exact HTE.out, HP.out.snoc hl HC1.out HC2.out, by rw [List.length_append, hl]; exact int_eq (by omega), by rw [List.length_append, hl]; exact int_eq (by omega), HD4.out, HG4.out⟩
      case measure => simp [intOf]; omega
    · have hleI : ¬ (Y.length : Int) + 20 ≤ (N : Int) := by omega
      have hr2 : Ris T2 := by
        have := HTR.out
        rw [HTE.out] at this
        exact (List.pairwise_append.1 this).2.1
      have HIN := Lib.hid (insertion_any f cm ok hw g Y.length N c N Y T2 [] q w0 wr HC.out (by simpa using HD1.out) HG1.out rfl (by have := HLY.out; omega) (fun x hx => HTO.out x (by rw [HTE.out]; exact List.mem_append_right _ hx)) hr2 (by simp; exact HLY.out.symm) hm)
      clear hr2
      go_wp2_with (go_at_call 101; (with_reducible refine HIN.out.mono ?_); rintro e w2 ⟨C, rfl, hc1, hc2, hd, hg⟩; have HC1 := Lib.hid hc1; have HC2 := Lib.hid hc2; have HD4 := Lib.hid hd; have HG4 := Lib.hid hg; clear hc1 hc2 hd hg)
      have HCE : Hid (CE (ltc cm) 20 T (Y ++ C)) := Lib.hid (by rw [HTE.out]; exact HP.out.2 _ _ (.last (by have := HLY.out; omega) HC1.out HC2.out))
      clear HC1 HC2 HIN HP HTE HLY hYN hle hleI HD1 HG1
      go_loopw [6] (fun s wr => Lp2 (ltc cm) f g w0 T N s wr) (fun s _ => N - (intOf s).toNat)
      case atStart => exact ⟨20, Y ++ C, rfl, by omega, by omega, HCE.out, by simpa using HD4.out, HG4.out⟩
      case round =>
        obtain ⟨bs, D, rfl, hb1, hb2, hce, hD, hG⟩ := hrel
        have HCE2 := Lib.hid hce
        have HD5 := Lib.hid hD
        have HG5 := Lib.hid hG
        clear hce hD hG
        by_cases hlt : bs < N
        · have w1 : IntKind.i64.wrap (2 * (bs : Int)) = 2 * (bs : Int) := by rw [IntKind.wrap_i64]; omega
          go_wp2_with fail
          go_loopw [7, 8] (fun a b wr => Lp3 (ltc cm) f g w0 T bs a b wr) (fun a b _ => N + 2 * bs - (intOf b).toNat)
          case atStart => exact ⟨[], T, [], D, rfl, Pre.none _ _, HCE2.out, rfl, int_eq (by simp), HD5.out, HG5.out⟩
          case round =>
            obtain ⟨TY, T2, Y, D2, hTe, hP, hce, rfl, rfl, hD, hG⟩ := hrel
            have HTE := Lib.hid hTe
            have HP2 := Lib.hid hP
            have HCE3 := Lib.hid hce
            have HD6 := Lib.hid hD
            have HG6 := Lib.hid hG
            have hlY : Y.length + D2.length = N := by rw [HTN.out, hTe, hce.perm.length_eq]; simp [hP.1]
            have HLY := Lib.hid hlY
            have hYN : Y.length ≤ N := by omega
            clear hTe hP hce hD hG hlY
            by_cases hle : Y.length + 2 * bs ≤ N
            · have hleI : (Y.length : Int) + 2 * (bs : Int) ≤ (N : Int) := by omega
              obtain ⟨TC, TE, T3, C, E, D3, htw, hE⟩ := HCE3.out.two (by have := HLY.out; omega)
              have HTW := Lib.hid htw
              have HEL := Lib.hid hE
              have HMG := Lib.hid (merge_all f cm ok hw g N c q w0 (C.length + E.length + 1) Y.length (Y.length + bs) (Y.length + 2 * bs) Y.length (Y.length + bs) (Y.length + 2 * bs) Y C E D3 wr (by omega) rfl (by omega) (by omega)
                ⟨HC.out, by have := HD6.out; rw [htw.d] at this; simpa only [List.append_assoc] using this, HG6.out, rfl, by rw [htw.lc], by rw [hE]; omega, by rw [htw.lc]; exact hb1, by rw [hE]; exact hb1, htw.sc, htw.se,
                 Ris.lo (by have := HTR.out; rw [HTE.out, htw.t] at this; exact this) htw.pc htw.pe,
                 fun x hx => HTO.out x (by rw [HTE.out, htw.t]; have := htw.pc.mem_iff.1 hx; simp [this]), fun x hx => HTO.out x (by rw [HTE.out, htw.t]; have := htw.pe.mem_iff.1 hx; simp [this]),
                 by have := HLY.out; rw [htw.d] at this; simp at this ⊢; omega, hm⟩)
              clear htw hE
              go_wp2_with (go_at_call 102; (with_reducible refine HMG.out.mono ?_); rintro e w2 ⟨M, rfl, hc1, hc2, hd, hg⟩; have HF1 := Lib.hid hc1; have HF2 := Lib.hid hc2; have HD7 := Lib.hid hd; have HG7 := Lib.hid hg; clear hc1 hc2 hd hg)
              go_roundw
              case rel =>
                have hl : M.length = 2 * bs := by rw [HF2.out.length_eq]; simp [HTW.out.lc, HEL.out]; omega
                exact ⟨TY ++ (TC ++ TE), T3, Y ++ M, D3, by rw [HTE.out, HTW.out.t]; simp only [List.append_assoc], HP2.out.snoc hl HF1.out (HF2.out.trans (HTW.out.pc.append HTW.out.pe)), HTW.out.ce, by rw [List.length_append, hl]; exact int_eq (by omega), by rw [List.length_append, hl]; exact int_eq (by omega), HD7.out, HG7.out⟩
              case measure => simp [intOf]; omega
            · have hleI : ¬ (Y.length : Int) + 2 * (bs : Int) ≤ (N : Int) := by omega
              by_cases hr : Y.length + bs < N
              · have hrI : (Y.length : Int) + (bs : Int) < (N : Int) := by omega
                obtain ⟨TC, TE, C, E, htw⟩ := HCE3.out.rest (by have := HLY.out; omega) (by have := HLY.out; omega)
                have HTW := Lib.hid htw
                have hel : bs + E.length + Y.length = N ∧ 0 < E.length := by
                  have h1 := HLY.out
                  have h2 := congrArg List.length htw.d
                  simp [htw.lc] at h2
                  omega
                have HEL := Lib.hid hel
                have HMG := Lib.hid (merge_all f cm ok hw g N c q w0 (C.length + E.length + 1) Y.length (Y.length + bs) N Y.length (Y.length + bs) N Y C E [] wr (by omega) rfl (by omega) rfl
                  ⟨HC.out, by have := HD6.out; rw [htw.d] at this; simpa only [List.append_assoc] using this, HG6.out, rfl, by rw [htw.lc], by have := hel.1; omega, by rw [htw.lc]; exact hb1, hel.2, htw.sc, htw.se,
                   Ris.lo (by have := HTR.out; rw [HTE.out, htw.t] at this; exact this) htw.pc htw.pe,
                   fun x hx => HTO.out x (by rw [HTE.out, htw.t]; have := htw.pc.mem_iff.1 hx; simp [this]), fun x hx => HTO.out x (by rw [HTE.out, htw.t]; have := htw.pe.mem_iff.1 hx; simp [this]),
                   by have := hel.1; have := htw.lc; simp; omega, hm⟩)
                clear htw hel
                go_wp2_with (go_at_call 102; (with_reducible refine HMG.out.mono ?_); rintro e w2 ⟨M, rfl, hc1, hc2, hd, hg⟩; have HF1 := Lib.hid hc1; have HF2 := Lib.hid hc2; have HD7 := Lib.hid hd; have HG7 := Lib.hid hg; clear hc1 hc2 hd hg)
                go_roundw
                case rel =>
                  have hl : M.length ≤ 2 * bs := by rw [HF2.out.length_eq]; have := HTW.out.lc; have := HEL.out.1; simp; omega
                  have hp : M.Perm T2 := by rw [HTW.out.t, List.append_nil]; exact HF2.out.trans (HTW.out.pc.append HTW.out.pe)
                  exact ⟨2 * bs, Y ++ M, int_eq (by omega), by omega, by omega, by rw [HTE.out]; exact HP2.out.2 _ _ (.last (by rw [← hp.length_eq]; exact hl) HF1.out hp), by simpa using HD7.out, HG7.out⟩
                case measure => simp [intOf]; omega
              · have hrI : ¬ (Y.length : Int) + (bs : Int) < (N : Int) := by omega
                go_wp2
                go_roundw
                case rel =>
                  have hp := HCE3.out.perm
                  have hl : T2.length ≤ bs := by rw [← hp.length_eq]; have := HLY.out; omega
                  exact ⟨2 * bs, Y ++ D2, int_eq (by omega), by omega, by omega, by rw [HTE.out]; exact HP2.out.2 _ _ (.last (by omega) (HCE3.out.done hl) hp), HD6.out, HG6.out⟩
                case measure => simp [intOf]; omega
        · go_wp2
          go_end0
          have hs := HCE2.out.done (by have := HTN.out; omega)
          have hu := sort_uniq hw (l := l) hs (by rw [← HT.out]; exact HCE2.out.perm)
          refine ⟨rfl, ?_, HG5.out⟩
          rw [← hu, List.map_map]
          exact HD5.out
end Go.Proofs.Ytddeaiciochggaa.So
