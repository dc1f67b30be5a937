/- SsiNone of the statements answers true for any steps: the walk. Conditions: steps that are read in memory, within reach. -/
import Derived.Test.YtlcmpngjmmbkcaaWc0
import Derived.Test.YtlcmpngjmmbkcaaVp
import Derived.Test.YtlcmpngjmmbkcaaVn
import Derived.Deep.CutBlock
namespace Go.Proofs.Ytlcmpngjmmbkcaa
open Go.RowKit Go.Sort Go.Maps
set_option linter.unusedSimpArgs false
set_option linter.unusedVariables false

theorem RdI.put3 {W : World} {g n c : Nat} {A : Option Addr} {l : List Int} (h : RdI W A n c l) (hf : ∀ ad, A = some ad → ad.block ≠ g) (a b d : Value) : RdI (((W.setCell ⟨g, 0, none⟩ a).setCell ⟨g, 1, none⟩ b).setCell ⟨g, 2, none⟩ d) A n c l :=
  ⟨h.len, h.le, h.cap, h.nil, fun ad e j v hj => by
    have hne := hf ad e
    have hq : ∀ (W : World) (o : Nat) (x : Value), (W.setCell ⟨g, o, none⟩ x).cell? (ad.add j) = W.cell? (ad.add j) := fun W o x => World.cell?_setCell_other _ _ _ _ (fun e => hne (by rw [← add_block ad j, ← e]))
    rw [hq, hq, hq]
    exact h.cells ad e j v hj⟩
/-- What may be, with no committed one that has both flags. -/
def Inv (S : St) : Prop := Ok S ∧ NB S.l
theorem inv_new : Inv nS := ⟨new_ok, fun t ht => by simp [nS] at ht⟩
/-- What a call leaves: a state, and who is to be given up. -/
def Nxt (S : St) (G : List Int) (E : Int) : Prop := E ≠ 0 ∨ (E = 0 ∧ Inv S ∧ G.Nodup ∧ Act S.l G)
theorem nxt_beg {s : St} (h : Inv s) : Nxt (begR s).1 [] (begR s).2.2 := by
  by_cases h0 : (begR s).2.2 = 0
  · obtain ⟨_, a, _, _, b⟩ := beg_ok h0
    exact .inr ⟨h0, ⟨a, b h.2⟩, List.nodup_nil, fun i hi => by simp at hi⟩
  · exact .inl h0
theorem nxt_com {s : St} (h : Inv s) (i : Int) : Nxt (comR s i).1 [] (comR s i).2.2 := by
  by_cases h0 : (comR s i).2.2 = 0
  · obtain ⟨_, a, _, b⟩ := com_ok h0
    exact .inr ⟨h0, ⟨a, b h.2⟩, List.nodup_nil, fun i hi => by simp at hi⟩
  · exact .inl h0
theorem nxt_abo {s : St} (h : Inv s) (i : Int) : Nxt (aboR s i).1 [] (aboR s i).2 := by
  by_cases h0 : (aboR s i).2 = 0
  · obtain ⟨_, a, b, _⟩ := abo_ok h0
    exact .inr ⟨h0, ⟨a, b h.2⟩, List.nodup_nil, fun i hi => by simp at hi⟩
  · exact .inl h0
theorem nxt_edg {s : St} (h : Inv s) (r v : Int) : Nxt (edgR s r v).1 (edgR s r v).2.1 (edgR s r v).2.2 := by
  by_cases h0 : (edgR s r v).2.2 = 0
  · obtain ⟨_, a, b, c, d⟩ := edg_ok h0
    exact .inr ⟨h0, ⟨a, b h.2⟩, c, d h.2⟩
  · exact .inl h0
theorem nxt_same {s : St} (h : Inv s) : Nxt s [] 0 := .inr ⟨rfl, h, List.nodup_nil, fun i hi => by simp at hi⟩
theorem new_sb {W w2 : World} (hb : Below (W.alloc (.cells #[.slice none 0 0, .int .i64 0, .int .i64 0] 28)).heap.size (W.alloc (.cells #[.slice none 0 0, .int .i64 0, .int .i64 0] 28)) w2) : SB w2 W.heap.size none 0 0 zS :=
  SB.below (W := W.alloc (.cells #[.slice none 0 0, .int .i64 0, .int .i64 0] 28)) (SB.new W (s := zS) (Rd.nothing _)) hb
theorem new_sbD {W w2 : World} (hb : Below (W.alloc (.cells #[.slice none 0 0, .int .i64 0, .int .i64 0] 28)).drew.heap.size (W.alloc (.cells #[.slice none 0 0, .int .i64 0, .int .i64 0] 28)).drew w2) : SB w2 W.heap.size none 0 0 zS :=
  new_sb (W := W) ⟨hb.os, hb.tape, hb.output, hb.size, hb.block⟩
/-- One of those given up: the rest can be. -/
theorem abo_next {S : St} {i : Int} {r : List Int} (h : Inv S) (ha : Act S.l (i :: r)) (hn : (i :: r).Nodup) : (aboR S i).2 = 0 ∧ Inv (aboR S i).1 ∧ Act (aboR S i).1.l r := by
  have h0 := abo_act h.1 (ha i (by simp))
  obtain ⟨_, a, b, c⟩ := abo_ok h0
  refine ⟨h0, ⟨a, b h.2⟩, fun j hj => c j ?_ (ha j (by simp [hj]))⟩
  rintro rfl
  exact (List.nodup_cons.1 hn).1 hj
set_option maxRecDepth 100000 in
set_option maxHeartbeats 32000000 in
theorem kNone_any (A : Option Addr) (n c : Nat) (l : List Sp) (w : World) (hr : RdP w A n c l) :
    Calls Try.prog 4 #[.slice A n c] w fun e w' => e = .returned (.bool true) ∧ Below w.heap.size w w' := by
  have hlen := hr.len
  have hle := hr.le
  have hcap := hr.cap
  have HA := Lib.hid fun W => alive_any W
  have HN := Lib.hid fun k W => num_any k W
  have HBG := Lib.hid fun S A n c W (hr : Rd W A n c S.l) => begin_any A n c S W hr
  have HED := Lib.hid fun r v S A n c W (hr : Rd W A n c S.l) => edgeF_any A n c S r v W hr
  have HCO := Lib.hid fun i S A n c W (hr : Rd W A n c S.l) => commit_any A n c S i W hr
  have HAB := Lib.hid fun i S A n c W (hr : Rd W A n c S.l) => abort_any A n c S i W hr
  have HCK := Lib.hid fun S A n c W (hr : Rd W A n c S.l) => check_any A n c S W hr
  have HRD := Lib.hid hr
  clear hr
  subst hlen
  go_enter Try.func4, Try.ntmps4
  go_upto_region 4 with (first | (go_at_call 7; (with_reducible refine (HA.out _).mono ?_); rintro e w1 ⟨rfl, hb⟩; have HB1 := Lib.hid hb; clear hb) | (go_at_call 16; (with_reducible refine (new_any _).mono ?_); rintro e w2 ⟨rfl, hb⟩; have HB2 := Lib.hid (thn HB1.out hb); clear hb))
  have hb3 := below1 w2 (.cells #[.slice none 0 0, .int .i64 0, .int .i64 1] 28)
  have HB3 := Lib.hid (thn HB2.out hb3)
  have HS3 : Hid (SB (w2.alloc (.cells #[.slice none 0 0, .int .i64 0, .int .i64 1] 28)) w2.heap.size none 0 0 nS) := Lib.hid (SB.new w2 (s := nS) (Rd.nothing _))
  have HG := Lib.hid HB2.out.size
  clear HB1 HB2 hb3
  generalize w2.alloc (.cells #[.slice none 0 0, .int .i64 0, .int .i64 1] 28) = W3 at *
  generalize w2.heap.size = g at *
  go_wp2_with fail
  go_loopw [4, 5] (fun b i wr => ∃ (j : Nat) (bg : Int) (A1 : Option Addr) (n1 c1 : Nat) (S : St), i = .int .i64 j ∧ b = .int .i64 bg ∧ j ≤ l.length ∧ j ≤ 60 ∧ Inv S ∧ SB wr g A1 n1 c1 S ∧ Below w.heap.size w wr) (fun _ i _ => l.length - (intOf i).toNat)
  case atStart => exact ⟨0, 0, none, 0, 0, nS, rfl, rfl, by omega, by omega, inv_new, HS3.out, HB3.out⟩
  case round =>
    obtain ⟨j, bg, A1, n1, c1, S, rfl, rfl, hj, hj60, hI, hS, hB⟩ := hrel
    have HI := Lib.hid hI
    have HS := Lib.hid hS
    have HB := Lib.hid hB
    clear hI hS hB HS3 HB3
    by_cases hgo : j < l.length ∧ j < 60
    · obtain ⟨hlt, h60⟩ := hgo
      have hd1 : decide ((j : Int) < (l.length : Int)) = true := by simpa using hlt
      have hd2 : decide ((j : Int) < 60) = true := by simp; omega
      have hjl : (j : Int) < (l.length : Int) := by omega
      obtain ⟨ad, rfl, t0, t1, t2⟩ := (HRD.out.below HB.out).at_ hlt
      have hbt := cell_lt t0
      rw [add_block] at hbt
      have HT0 := Lib.hid t0
      have HRK := Lib.hid hlt
      have H60 := Lib.hid h60
      generalize l[j] = v at *
      go_upto_region 8 with fail
      have p1 := cell_regrown t1
      have p2 := cell_regrown t2
      clear t0 t1 t2
      refine wp_region_quiet_below (by kernel_rfl) (by kernel_rfl) ?_
      repeat (go_big_quiet_step (fail))
      refine wpQuiet_nil ?_
      intro w5 hw5
      obtain ⟨pp, rfl⟩ := hw5
      have hb5 := below_regrown wr pp.d pp.os
      have HS5 := Lib.hid (HS.out.below hb5)
      have HB5 := Lib.hid (thn HB.out hb5)
      have HT5 := Lib.hid (cell_keep HT0.out hb5)
      clear p1 p2 hb5 HT0 HS HB
      generalize grow (redrawn wr pp.d) pp.os = W5 at *
      generalize wrap64 (1 + (wrap64 (v.a.tmod 9 + 9)).tmod 9) = ra at *
      generalize wrap64 (1 + (wrap64 (v.b.tmod 9 + 9)).tmod 9) = rb at *
      obtain ⟨y0, y1, y2, _, _, _⟩ := HS5.out.box
      have t0 := HT5.out
      have t0' := cell_keep t0 (below1 W5 (.cells #[.slice A1 n1 c1, .int .i64 S.c, .int .i64 S.n] 28))
      go_upto_block 2 with fail
      have hb6 := below1 W5 (.cells #[.slice A1 n1 c1, .int .i64 S.c, .int .i64 S.n] 28)
      have HB6 := Lib.hid (thn HB5.out hb6)
      have HS6 := Lib.hid (HS5.out.below hb6)
      have HC6 := Lib.hid (SB.new W5 HS5.out.rd)
      have HG6 := Lib.hid HB5.out.size
      have HGL := Lib.hid HS5.out.box.lt
      clear HB5 HS5 HT5 t0 t0' y0 y1 y2 hb6 hbt
      generalize W5.alloc (.cells #[.slice A1 n1 c1, .int .i64 S.c, .int .i64 S.n] 28) = W6 at *
      generalize W5.heap.size = g9 at *
      generalize (wrap64 (v.t.tmod 4 + 4)).tmod 4 = T at *
      have HCF := HC6.out.fin
      obtain ⟨y0, y1, y2, _, _, _⟩ := HS6.out.box
      obtain ⟨z0, z1, z2, zf0, zf1, zf2⟩ := HC6.out.box
      have HLT9 := Lib.hid (show g ≠ g9 by have := HGL.out; omega)
      go_cut [4, 8, 10] from 55 to 91 (fun b gv e wx => ∃ (bg' : Int) (B : Option Addr) (m d : Nat) (A9 : Option Addr) (n9 c9 : Nat) (S' : St) (G : List Int) (E : Int), b = .int .i64 bg' ∧ gv = .slice B m d ∧ e = .int .i64 E ∧ Nxt S' G E ∧ SB wx g9 A9 n9 c9 S' ∧ RdI wx B m d G ∧ (∀ ad, B = some ad → ad.block ≠ g) ∧ SB wx g A1 n1 c1 S ∧ Below w.heap.size w wx)
      case first =>
        by_cases hT : T = 0
        · have hT0 : (T == 0) = true := by simpa using hT
          clear hT
          by_cases hbg : 9 ≤ bg
          · have hb9 : decide (9 ≤ bg) = true := decide_eq_true hbg
            clear hbg
            go_wp2_with fail
            exact ⟨⟨j + 1, bg, A1, n1, c1, S, by go_num, rfl, HRK.out, H60.out, HI.out, HS6.out, HB6.out⟩, by have := HRK.out; simp [intOf]; omega⟩
          · have hb9 : decide (9 ≤ bg) = false := decide_eq_false hbg
            clear hbg
            go_wp2_with (go_at_call 8; (with_reducible refine (HBG.out S _ _ _ _ HS6.out.rd).mono ?_); rintro e w7 ⟨A7, n7, c7, rfl, hr, hb⟩; have HB7 := Lib.hid (thn HB6.out hb); have HS7 := Lib.hid (HS6.out.below hb); have HC7 := Lib.hid (HC6.out.below hb); have HR7 := Lib.hid hr; clear hr hb y0 y1 y2 z0 z1 z2 zf0 zf1 zf2; obtain ⟨z0, z1, z2, zf0, zf1, zf2⟩ := HC7.out.box)
            go_meet
            exact ⟨(begR S).2.1, none, 0, 0, _, _, _, (begR S).1, [], (begR S).2.2, rfl, rfl, rfl, nxt_beg HI.out, HC7.out.put HR7.out, RdI.nothing _, (fun ad e => by cases e), ⟨((HS7.out.box.other _ _ HLT9.out).other _ _ HLT9.out).other _ _ HLT9.out, HS7.out.rd.put3 HC7.out.fin _ _ _, fun k hk => by rw [World.cell?_setCell_other _ _ _ _ (fun e => HLT9.out (congrArg Addr.block e).symm), World.cell?_setCell_other _ _ _ _ (fun e => HLT9.out (congrArg Addr.block e).symm), World.cell?_setCell_other _ _ _ _ (fun e => HLT9.out (congrArg Addr.block e).symm)]; exact HS7.out.fin k hk⟩, ((HB7.out.setCell (p := ⟨g9, 0, none⟩) HG6.out _).setCell (p := ⟨g9, 1, none⟩) HG6.out _).setCell (p := ⟨g9, 2, none⟩) HG6.out _⟩
        · have hT0 : (T == 0) = false := by simpa using hT
          clear hT
          by_cases hT : T = 1
          · have hT1 : (T == 1) = true := by simpa using hT
            clear hT
            go_wp2_with (go_at_call 12; (with_reducible refine (HED.out ra rb S _ _ _ _ HS6.out.rd).mono ?_); rintro e w7 ⟨A7, n7, c7, B7, m7, d7, rfl, hr, hi, hb, hf⟩; have HB7 := Lib.hid (thn HB6.out hb); have HS7 := Lib.hid (HS6.out.below hb); have HC7 := Lib.hid (HC6.out.below hb); have HR7 := Lib.hid hr; have HI7 := Lib.hid hi; have HF7 := Lib.hid hf; clear hr hb hi hf y0 y1 y2 z0 z1 z2 zf0 zf1 zf2; obtain ⟨z0, z1, z2, zf0, zf1, zf2⟩ := HC7.out.box)
            go_meet
            exact ⟨bg, B7, m7, d7, _, _, _, (edgR S ra rb).1, (edgR S ra rb).2.1, (edgR S ra rb).2.2, rfl, rfl, rfl, nxt_edg HI.out ra rb, HC7.out.put HR7.out, (HI7.out.put3 (fun ad e => by have h1 := HF7.out ad e; have h2 := HC6.out.box.lt; omega) _ _ _), (fun ad e => by have h1 := HF7.out ad e; have h2 := HGL.out; have h3 := HC6.out.box.lt; omega), ⟨((HS7.out.box.other _ _ HLT9.out).other _ _ HLT9.out).other _ _ HLT9.out, HS7.out.rd.put3 HC7.out.fin _ _ _, fun k hk => by rw [World.cell?_setCell_other _ _ _ _ (fun e => HLT9.out (congrArg Addr.block e).symm), World.cell?_setCell_other _ _ _ _ (fun e => HLT9.out (congrArg Addr.block e).symm), World.cell?_setCell_other _ _ _ _ (fun e => HLT9.out (congrArg Addr.block e).symm)]; exact HS7.out.fin k hk⟩, ((HB7.out.setCell (p := ⟨g9, 0, none⟩) HG6.out _).setCell (p := ⟨g9, 1, none⟩) HG6.out _).setCell (p := ⟨g9, 2, none⟩) HG6.out _⟩
          · have hT1 : (T == 1) = false := by simpa using hT
            clear hT
            by_cases hT : T = 2
            · have hT2 : (T == 2) = true := by simpa using hT
              clear hT
              go_wp2_with (go_at_call 13; (with_reducible refine (HCO.out ra S _ _ _ _ HS6.out.rd).mono ?_); rintro e w7 ⟨A7, n7, c7, rfl, hr, hb⟩; have HB7 := Lib.hid (thn HB6.out hb); have HS7 := Lib.hid (HS6.out.below hb); have HC7 := Lib.hid (HC6.out.below hb); have HR7 := Lib.hid hr; clear hr hb y0 y1 y2 z0 z1 z2 zf0 zf1 zf2; obtain ⟨z0, z1, z2, zf0, zf1, zf2⟩ := HC7.out.box)
              go_meet
              exact ⟨bg, none, 0, 0, _, _, _, (comR S ra).1, [], (comR S ra).2.2, rfl, rfl, rfl, nxt_com HI.out ra, HC7.out.put HR7.out, RdI.nothing _, (fun ad e => by cases e), ⟨((HS7.out.box.other _ _ HLT9.out).other _ _ HLT9.out).other _ _ HLT9.out, HS7.out.rd.put3 HC7.out.fin _ _ _, fun k hk => by rw [World.cell?_setCell_other _ _ _ _ (fun e => HLT9.out (congrArg Addr.block e).symm), World.cell?_setCell_other _ _ _ _ (fun e => HLT9.out (congrArg Addr.block e).symm), World.cell?_setCell_other _ _ _ _ (fun e => HLT9.out (congrArg Addr.block e).symm)]; exact HS7.out.fin k hk⟩, ((HB7.out.setCell (p := ⟨g9, 0, none⟩) HG6.out _).setCell (p := ⟨g9, 1, none⟩) HG6.out _).setCell (p := ⟨g9, 2, none⟩) HG6.out _⟩
            · have hT2 : (T == 2) = false := by simpa using hT
              clear hT
              by_cases hT : T = 3
              · have hT3 : (T == 3) = true := by simpa using hT
                clear hT
                go_wp2_with (go_at_call 14; (with_reducible refine (HAB.out ra S _ _ _ _ HS6.out.rd).mono ?_); rintro e w7 ⟨A7, n7, c7, rfl, hr, hb⟩; have HB7 := Lib.hid (thn HB6.out hb); have HS7 := Lib.hid (HS6.out.below hb); have HC7 := Lib.hid (HC6.out.below hb); have HR7 := Lib.hid hr; clear hr hb y0 y1 y2 z0 z1 z2 zf0 zf1 zf2; obtain ⟨z0, z1, z2, zf0, zf1, zf2⟩ := HC7.out.box)
                go_meet
                exact ⟨bg, none, 0, 0, _, _, _, (aboR S ra).1, [], (aboR S ra).2, rfl, rfl, rfl, nxt_abo HI.out ra, HC7.out.put HR7.out, RdI.nothing _, (fun ad e => by cases e), ⟨((HS7.out.box.other _ _ HLT9.out).other _ _ HLT9.out).other _ _ HLT9.out, HS7.out.rd.put3 HC7.out.fin _ _ _, fun k hk => by rw [World.cell?_setCell_other _ _ _ _ (fun e => HLT9.out (congrArg Addr.block e).symm), World.cell?_setCell_other _ _ _ _ (fun e => HLT9.out (congrArg Addr.block e).symm), World.cell?_setCell_other _ _ _ _ (fun e => HLT9.out (congrArg Addr.block e).symm)]; exact HS7.out.fin k hk⟩, ((HB7.out.setCell (p := ⟨g9, 0, none⟩) HG6.out _).setCell (p := ⟨g9, 1, none⟩) HG6.out _).setCell (p := ⟨g9, 2, none⟩) HG6.out _⟩
              · have hT3 : (T == 3) = false := by simpa using hT
                clear hT
                go_wp2_with fail
                go_meet
                exact ⟨bg, none, 0, 0, _, _, _, S, [], 0, rfl, rfl, rfl, nxt_same HI.out, HC6.out, RdI.nothing _, (fun ad e => by cases e), HS6.out, HB6.out⟩
      case rest =>
      obtain ⟨bg', B, m, d, A9, n9, c9, S', G, E, rfl, rfl, rfl, hnx, hC, hGR, hGF, hS9, hB9⟩ := hcut
      have HC9 := Lib.hid hC
      have HS9 := Lib.hid hS9
      have HB9 := Lib.hid hB9
      have HGR := Lib.hid hGR
      have HGF := Lib.hid hGF
      clear hC hS9 hB9 hGR hGF y0 y1 y2 z0 z1 z2 zf0 zf1 zf2 HS6 HC6 HB6 HCF
      rcases hnx with hE | ⟨hE, hI2, hnd, hact⟩
      · have hE' : (E != 0) = true := by simpa using hE
        clear hE
        go_wp2_with fail
        exact ⟨⟨j + 1, bg', A1, n1, c1, S, by go_num, rfl, HRK.out, H60.out, HI.out, HS9.out, HB9.out⟩, by have := HRK.out; simp [intOf]; omega⟩
      · subst hE
        have HI2 := Lib.hid hI2
        have HND := Lib.hid hnd
        have HAC := Lib.hid hact
        clear hI2 hnd hact
        obtain ⟨y0, y1, y2, yf0, yf1, yf2⟩ := HS9.out.box
        obtain ⟨z0, z1, z2, _, _, _⟩ := HC9.out.box
        go_upto_region 23 with fail
        have HSA := Lib.hid (HS9.out.put (s' := S') HC9.out.rd)
        have HGA := Lib.hid (HGR.out.put3 HGF.out (.slice A9 n9 c9) (.int .i64 S'.c) (.int .i64 S'.n))
        have HBA := Lib.hid (((HB9.out.setCell (p := ⟨g, 0, none⟩) HG.out (.slice A9 n9 c9)).setCell (p := ⟨g, 1, none⟩) HG.out (.int .i64 S'.c)).setCell (p := ⟨g, 2, none⟩) HG.out (.int .i64 S'.n))
        clear y0 y1 y2 yf0 yf1 yf2 z0 z1 z2 HS9 HC9 HB9 HGR
        generalize ((wc.setCell ⟨g, 0, none⟩ (.slice A9 n9 c9)).setCell ⟨g, 1, none⟩ (.int .i64 S'.c)).setCell ⟨g, 2, none⟩ (.int .i64 S'.n) = WA at *
        have hGl : m = G.length := HGA.out.len.symm
        subst hGl
        go_wp2_with fail
        go_loopw [11] (fun x wr => ∃ (q : Nat) (A2 : Option Addr) (n2 c2 : Nat) (U : St), x = .int .i64 q ∧ q ≤ G.length ∧ Inv U ∧ Act U.l (G.drop q) ∧ SB wr g A2 n2 c2 U ∧ RdI wr B G.length d G ∧ Below w.heap.size w wr) (fun x _ => G.length - (intOf x).toNat)
        case atStart => exact ⟨0, _, _, _, S', rfl, by omega, HI2.out, HAC.out, HSA.out, HGA.out, HBA.out⟩
        case round =>
          obtain ⟨q, A2, n2, c2, U, rfl, hq, hIU, hAU, hSU, hGU, hBU⟩ := hrel
          have HSU := Lib.hid hSU
          have HGU := Lib.hid hGU
          have HBU := Lib.hid hBU
          have hqc : G.length ≤ 9223372036854775807 := Nat.le_trans HGU.out.le HGU.out.cap
          clear hSU hGU hBU HSA HGA HBA
          by_cases hlq : q < G.length
          · obtain ⟨bd, rfl, k0⟩ := HGU.out.at_ hlq
            have hdr : G.drop q = G[q] :: G.drop (q + 1) := List.drop_eq_getElem_cons hlq
            have hnd2 : (G[q] :: G.drop (q + 1)).Nodup := by rw [← hdr]; exact HND.out.sublist (List.drop_sublist q G)
            rw [hdr] at hAU
            have hnx2 := abo_next hIU hAU hnd2
            have HABU := Lib.hid fun i W (hb : Below wr.heap.size wr W) => HAB.out i U A2 n2 c2 W (HSU.out.rd.below hb)
            have HABI := Lib.hid fun W (hb : Below wr.heap.size wr W) => HABU.out G[q] W hb
            have hbk := cell_lt k0
            rw [add_block] at hbk
            have hlq2 : (q : Int) < (G.length : Int) := by omega
            have HLQ := Lib.hid hlq
            clear hdr hnd2 hAU HABU
            generalize G[q] = i at *
            generalize aboR U i = R at *
            obtain ⟨U2, E2⟩ := R
            simp only at HABI hnx2
            obtain ⟨h0, hI3, hA3⟩ := hnx2
            subst h0
            have HI3 := Lib.hid hI3
            have HA3 := Lib.hid hA3
            clear hI3 hA3 hIU
            obtain ⟨y0, y1, y2, yf0, yf1, yf2⟩ := HSU.out.box
            have hgl := cell_lt y0
            go_upto_region 26 with fail
            go_cut [12, 13] (fun p e wx => ∃ (h : Nat) (A4 : Option Addr) (n4 c4 : Nat), p = .pointer (some ⟨h, 0, none⟩) ∧ e = .int .i64 0 ∧ wr.heap.size ≤ h ∧ SB wx h A4 n4 c4 U2 ∧ Below wr.heap.size wr wx)
            case first =>
              have HSO := Lib.hid fun W' (hb : Below wr.heap.size wr W') => (show Below wr.heap.size wr W' ∧ W'.cell? ⟨g, 0, none⟩ = some (.slice A2 n2 c2) ∧ W'.cell? ⟨g, 1, none⟩ = some (.int .i64 U.c) ∧ W'.cell? ⟨g, 2, none⟩ = some (.int .i64 U.n) ∧ W'.cell? (bd.add q) = some (.int .i64 i) from ⟨hb, cell_keep y0 hb, cell_keep y1 hb, cell_keep y2 hb, cell_keep k0 hb⟩)
              have hbW := (Below.refl wr.heap.size wr).drew
              clear k0 y0 y1 y2 yf0 yf1 yf2
              go_region_held3 (fun W' => Below wr.heap.size wr W' ∧ W'.cell? ⟨g, 0, none⟩ = some (.slice A2 n2 c2) ∧ W'.cell? ⟨g, 1, none⟩ = some (.int .i64 U.c) ∧ W'.cell? ⟨g, 2, none⟩ = some (.int .i64 U.n) ∧ W'.cell? (bd.add q) = some (.int .i64 i))
                (first | exact HSO.out _ hbW | exact HSO.out _ hq2 | exact HSO.out _ (hq2.alloc hq2.size _) | exact HSO.out _ (hbW.alloc (Nat.le_refl _) _) | exact HSO.out _ (((hq2.setCell (by simp <;> omega) _).setCell (by simp <;> omega) _).setCell (by simp <;> omega) _) | (obtain ⟨s0, _⟩ := ‹Below wr.heap.size wr _ ∧ _›; exact HSO.out _ (s0.alloc s0.size _)))
                (first | (go_at_call 14; (with_reducible refine (HABI.out _ (And.left ‹Below wr.heap.size wr _ ∧ _›)).mono ?_); rintro e w4 ⟨A4, n4, c4, rfl, hr4, hb⟩; have hq2 : Below wr.heap.size wr w4 := thn (And.left ‹Below wr.heap.size wr _ ∧ _›) hb; have hz4 := hq2.size; (try (have hsb := new_sbD (W := wr) hb)); (try (have hsb := new_sb (W := wr) hb)); (try (have hc0 := hsb.box.c0; have hc1 := hsb.box.c1; have hc2 := hsb.box.c2; have hf0 := hsb.box.f0; have hf1 := hsb.box.f1; have hf2 := hsb.box.f2)); clear hb))
              · have F0 := Lib.hid (SB.new w4 (s := U2) hr4)
                have F1 := Lib.hid (hq2.alloc hq2.size (.cells #[.slice A4 n4 c4, .int .i64 U2.c, .int .i64 U2.n] 28))
                have F2 := Lib.hid hz4
                clear hr4 hq2 hbW hz4
                go_wp2_with fail
                go_meet
                exact ⟨_, _, _, _, rfl, rfl, F2.out, F0.out, F1.out⟩
              · have F0 := Lib.hid (hsb.put (s' := U2) hr4)
                have F1 := Lib.hid (And.left ‹Below wr.heap.size wr _ ∧ _›)
                clear hr4 hq2 hbW hz4 hsb hc0 hc1 hc2 hf0 hf1 hf2
                go_wp2_with fail
                go_meet
                exact ⟨_, _, _, _, rfl, rfl, Nat.le_refl _, F0.out, F1.out⟩
            case rest =>
            obtain ⟨h, A4, n4, c4, rfl, rfl, hh, hS4, hb⟩ := hcut
            have HS4 := Lib.hid hS4
            have HSV := Lib.hid (HSU.out.below hb)
            have HGV := Lib.hid (HGU.out.below hb)
            have HBV := Lib.hid (thn HBU.out hb)
            clear hS4 hb hh k0 y0 y1 y2 yf0 yf1 yf2 hgl hbk
            obtain ⟨y0, y1, y2, yf0, yf1, yf2⟩ := HSV.out.box
            obtain ⟨z0, z1, z2, _, _, _⟩ := HS4.out.box
            have F0 := Lib.hid (HSV.out.put (s' := U2) HS4.out.rd)
            have F1 := Lib.hid (HGV.out.put3 HGF.out (.slice A4 n4 c4) (.int .i64 U2.c) (.int .i64 U2.n))
            have F2 := Lib.hid (((HBV.out.setCell (p := ⟨g, 0, none⟩) HG.out (.slice A4 n4 c4)).setCell (p := ⟨g, 1, none⟩) HG.out (.int .i64 U2.c)).setCell (p := ⟨g, 2, none⟩) HG.out (.int .i64 U2.n))
            clear HS4 HSV HGV HBV HSU HGU HBU
            go_wp2_with fail
            exact ⟨⟨q + 1, A4, n4, c4, U2, by go_num, HLQ.out, HI3.out, HA3.out, F0.out, F1.out, F2.out⟩, by have := HLQ.out; simp [intOf]; omega⟩
          · have hlq2 : ¬ (q : Int) < (G.length : Int) := by omega
            have hlq3 : decide (q < G.length) = false := by simpa using hlq
            have HIE := Lib.hid hIU
            clear hIU hAU
            go_wp2_with fail
            exact ⟨⟨j + 1, bg', A2, n2, c2, U, by go_num, rfl, HRK.out, H60.out, HIE.out, HSU.out, HBU.out⟩, by have := HRK.out; simp [intOf]; omega⟩
    · have hex : (decide (j < l.length) = false ∧ decide ((j : Int) < (l.length : Int)) = false) ∨ (decide (j < l.length) = true ∧ decide ((j : Int) < (l.length : Int)) = true ∧ decide (j < 60) = false ∧ decide ((j : Int) < 60) = false) := by
        by_cases hlt : j < l.length
        · exact .inr ⟨by simpa using hlt, by simpa using hlt, by simp; omega, by simp; omega⟩
        · exact .inl ⟨by simpa using hlt, by simp; omega⟩
      have hn1 : n1 = S.l.length := HS.out.rd.len.symm
      subst hn1
      have hcl : S.l.length ≤ 64 := HI.out.1.len
      clear hgo HBG HED HCO HAB
      have HCS := Lib.hid fun A n c W hr => HCK.out S A n c W hr
      rw [chk_ok HI.out.1] at HCS
      clear HCK
      obtain ⟨y0, y1, y2, _, _, _⟩ := HS.out.box
      rcases hex with ⟨hd0, hd1⟩ | ⟨hd0, hd1, hd2, hd3⟩
      all_goals
        go_wp2_with fail
        clear y0 y1 y2
        generalize wr = W20 at *
        go_loopw [14] (fun x wx => ∃ q : Nat, x = .int .i64 q ∧ q ≤ S.l.length ∧ Below W20.heap.size W20 wx) (fun x _ => S.l.length - (intOf x).toNat)
        case atStart => exact ⟨0, rfl, by omega, Below.refl _ _⟩
        case round =>
          obtain ⟨q, rfl, hq, hB2⟩ := hrel
          have HBQ := Lib.hid hB2
          have HSQ := Lib.hid (HS.out.below hB2)
          clear hB2
          obtain ⟨y0, y1, y2, _, _, _⟩ := HSQ.out.box
          have hgl := cell_lt y0
          by_cases hlq : q < S.l.length
          · have hlq2 : (q : Int) < (S.l.length : Int) := by omega
            obtain ⟨bd, rfl, t0, t1, t2, t3, t4⟩ := HSQ.out.rd.at_ hlq
            have hbt := cell_lt t0
            rw [add_block] at hbt
            have hnb := HI.out.2 _ (List.getElem_mem hlq)
            generalize S.l[q] = t at *
            have HLQ := Lib.hid hlq
            by_cases hp : 0 < t.e
            · have hp' : decide (0 < t.e) = true := decide_eq_true hp
              have hno := hnb hp
              clear hp hnb
              obtain ⟨ti, ts, te, ta, tb⟩ := t
              simp only at hno t0 t1 t2 t3 t4 hp'
              cases ta
              · go_wp2_with fail
                go_roundw
                case rel => exact ⟨q + 1, by go_num, HLQ.out, HBQ.out⟩
                case measure => simp [intOf]; omega
              · obtain rfl : tb = false := by simpa using hno
                go_wp2_with fail
                go_roundw
                case rel => exact ⟨q + 1, by go_num, HLQ.out, HBQ.out⟩
                case measure => simp [intOf]; omega
            · have hp' : decide (0 < t.e) = false := decide_eq_false hp
              clear hp hnb
              go_wp2_with fail
              go_roundw
              case rel => exact ⟨q + 1, by go_num, HLQ.out, HBQ.out⟩
              case measure => simp [intOf]; omega
          · have hlq2 : ¬ (q : Int) < (S.l.length : Int) := by omega
            go_wp2_with (first | (go_at_call 11; (with_reducible refine (HCS.out _ _ _ _ HSQ.out.rd).mono ?_); rintro e w21 ⟨rfl, hb⟩; have HB21 := Lib.hid (thn HB.out (thn HBQ.out hb)); clear hb) | (go_at_call 10; (with_reducible refine (HN.out _ _).mono ?_); rintro e w9 ⟨rfl, rfl⟩))
            go_ret
            exact ⟨rfl, HB21.out⟩
end Go.Proofs.Ytlcmpngjmmbkcaa
