/- What LexPlaces answers for any text: the walk. Conditions: strconv.ErrRange holds an error; a text's length as every machine keeps it. -/
import Derived.Test.YtcliineiokgenaaDoorVo
import Derived.Lib.QuietBelow
import Derived.IntWalk
namespace Go.Proofs.YtcliineiokgenaaDoor
open Go.RowKit
set_option linter.unusedSimpArgs false
set_option linter.unusedVariables false

/-- What Lex answers, where it answers a list. -/
theorem lex_ok (s : ByteArray) (l : List Tok) (w : World) (hs : s.size ≤ 140737488355328) (hr : Ran w) (h : lexL s.data.toList = .ok l) :
    Calls Tryd.prog 8 #[.string s] w fun e w' => (∃ A c, e = .returned (.tuple #[.slice A l.length c, .int .i64 s.size, .int .i64 0]) ∧ RdT w' w'.heap.size A l) ∧ Below w.heap.size w w' := by
  refine (lex_any s w hs hr).mono fun e w' hp => ?_
  rw [h] at hp
  obtain ⟨⟨v, rfl, ho⟩, hB⟩ := hp
  obtain ⟨A, c, rfl, _, hR⟩ := RdT_own ho
  exact ⟨⟨A, c, rfl, hR⟩, hB⟩
theorem lex_err (s : ByteArray) (a x : Nat) (w : World) (hs : s.size ≤ 140737488355328) (hr : Ran w) (h : lexL s.data.toList = .err a x) :
    Calls Tryd.prog 8 #[.string s] w fun e w' => e = .returned (.tuple #[.slice none 0 0, .int .i64 a, .int .i64 x]) ∧ Below w.heap.size w w' := by
  refine (lex_any s w hs hr).mono fun e w' hp => ?_
  rw [h] at hp
  exact hp
theorem below_drewN {B : Nat} {w w' : World} (h : Below B w w') (n : Nat) : Below B w (w'.drewN n) := ⟨h.os, h.tape, h.output, h.size, h.block⟩
theorem ba_ext' {x y : ByteArray} (h : x.data.toList = y.data.toList) : x = y := ByteArray.ext (Array.toList_inj.1 h)
theorem Ran.below {w w' : World} (h : Ran w) (hb : Below w.heap.size w w') : Ran w' := by
  have hl := h.lt
  obtain ⟨te, pe, h⟩ := h
  exact ⟨te, pe, by rw [World.cell?_of_block (hb.block 2 hl)]; exact h⟩

set_option maxHeartbeats 2000000 in
set_option maxRecDepth 100000 in
theorem places_err (s : ByteArray) (a x : Nat) (w : World) (hs : s.size ≤ 140737488355328) (hr : Ran w) (h : lexL s.data.toList = .err a x) :
    Calls Tryd.prog 5 #[.string s] w fun e w' => e = .returned (.bool true) ∧ Below w.heap.size w w' := by
  have hp := lexL_placed s.data.toList
  rw [h] at hp
  obtain ⟨ha, hx⟩ := hp
  have hal := alive_any w hr
  have hlex := fun w1 h1 => lex_err s a x w1 hs h1 h
  have ha' : (a : Int) ≤ (s.size : Int) := by simp at ha; omega
  have hs' : s.size ≤ 9223372036854775807 := by omega
  have hx1 : ((x : Int) != 0) = true := by simp; omega
  have hx2 : ((x : Int) == 0) = false := by simp; omega
  have hx3 : (x : Int) ≤ 91 := by omega
  have HRan := Lib.hid hr
  clear hr h hx ha
  go_enter Tryd.func5, Tryd.ntmps5
  go_wp2_with fail
  go_at_call 7
  refine hal.mono ?_
  rintro e w1 ⟨rfl, hB1⟩
  have HB1 := Lib.hid hB1
  clear hB1 hal
  go_wp2_with fail
  go_at_call 8
  refine (hlex _ (HRan.out.below HB1.out)).mono ?_
  rintro e w2 ⟨rfl, hB2⟩
  have HB2 := Lib.hid (HB1.out.trans (hB2.mono HB1.out.size))
  clear hB2 hlex
  go_wp2_with (go_at_call 9; refine (num_any _ _).mono ?_; rintro e w3 ⟨rfl, rfl⟩)
  go_ret
  exact ⟨rfl, HB2.out⟩

set_option maxHeartbeats 4000000 in
set_option maxRecDepth 100000 in
theorem places_ok (s : ByteArray) (l : List Tok) (w : World) (hs : s.size ≤ 140737488355328) (hr : Ran w) (h : lexL s.data.toList = .ok l) :
    Calls Tryd.prog 5 #[.string s] w fun e w' => e = .returned (.bool true) ∧ Below w.heap.size w w' := by
  have hp := lexL_placed s.data.toList
  rw [h] at hp
  have HP : Hid (Placed s.data.toList l) := hp
  have hfew := hp.few
  have hal := alive_any w hr
  have hlex := fun w1 h1 => lex_ok s l w1 hs h1 h
  have hs' : s.size ≤ 9223372036854775807 := by omega
  have HRan := Lib.hid hr
  clear hr h hp
  go_enter Tryd.func5, Tryd.ntmps5
  go_wp2_with fail
  go_at_call 7
  refine hal.mono ?_
  rintro e w1 ⟨rfl, hB1⟩
  have HB1 := Lib.hid hB1
  clear hB1 hal
  go_wp2_with fail
  go_at_call 8
  refine (hlex _ (HRan.out.below HB1.out)).mono ?_
  rintro e w2 ⟨⟨A, c, rfl, hRd⟩, hB2⟩
  have HB2 := Lib.hid (HB1.out.trans (hB2.mono HB1.out.size))
  have HRd := Lib.hid hRd
  clear hB2 hlex hRd
  go_wp2_with (go_at_call 9; refine (num_any _ _).mono ?_; rintro e w3 ⟨rfl, rfl⟩)
  go_loopw [6] (fun i wr => ∃ k : Nat, k ≤ l.length ∧ i = .int .i64 k ∧ Below w2.heap.size w2 wr) (fun i _ => l.length - (intOf i).toNat)
  case atStart => exact ⟨0, Nat.zero_le _, rfl, Below.refl _ _⟩
  case round =>
    obtain ⟨k, hk, rfl, hB⟩ := hrel
    have HB := Lib.hid hB
    clear hB
    rcases Nat.lt_or_ge k l.length with hlt | hge
    · obtain ⟨ad, rfl, hb, k0, k1, k2, k3⟩ := (HRd.out.below HB.out).at_ (j := k) hlt
      obtain ⟨c0, hc0, hg⟩ := HP.out.all l[k] (List.getElem_mem hlt)
      have hat : l[k].at_ < s.size := by have := (List.getElem?_eq_some_iff.1 hc0).1; simpa using this
      have hce : s[l[k].at_] = c0 := by have := (List.getElem?_eq_some_iff.1 hc0).2; rw [← this]; rfl
      have hpr : ∀ h : 0 < k, l[k - 1].at_ < l[k].at_ := fun h => List.pairwise_iff_getElem.1 HP.out.rise (k - 1) k (by omega) hlt (by omega)
      have hprev : ∀ h : 0 < k, Cell4 wr (ad.add ((k - 1) * 4)) l[k - 1] := fun h => by
        obtain ⟨ad', e, _, hc⟩ := (HRd.out.below HB.out).at_ (j := k - 1) (by omega)
        injection e with e; subst e; exact hc
      clear hc0
      generalize l[k] = t at *
      obtain ⟨kk, tt, nn, aa⟩ := t
      simp only at k0 k1 k2 k3 hat hce hpr hg
      have HG := Lib.hid hg
      have HPR := Lib.hid hpr
      have HPV := Lib.hid hprev
      have HCE := Lib.hid hce
      clear hg hpr hprev hce
      have d1 : decide ((aa : Int) < 0) = false := by simp
      have d2 : decide ((s.size : Int) ≤ (aa : Int)) = false := by simp; omega
      have d2' : decide (s.size ≤ aa) = false := by simp; omega
      have hT : Tkn (wr.alloc (.cells #[.int .i64 kk, .string ⟨tt.toArray⟩, .int .i64 nn, .int .i64 aa] 31)) wr.heap.size kk ⟨tt.toArray⟩ nn aa := heap_alloc_new wr _
      have hB3 : Below w2.heap.size w2 (wr.alloc (.cells #[.int .i64 kk, .string ⟨tt.toArray⟩, .int .i64 nn, .int .i64 aa] 31)) := HB.out.alloc HB.out.size _
      have hB4 : Below wr.heap.size wr (wr.alloc (.cells #[.int .i64 kk, .string ⟨tt.toArray⟩, .int .i64 nn, .int .i64 aa] 31)) := (Below.refl _ _).alloc (Nat.le_refl _) _
      have HT := Lib.hid hT
      have HB3 := Lib.hid hB3
      have HB4 := Lib.hid hB4
      clear hT hB3 hB4
      have hbw : ad.block < wr.heap.size := by have := HB.out.size; omega
      rcases Nat.eq_zero_or_pos k with h0 | hpos
      · have d3 : decide ((0 : Int) < (k : Int)) = false := by simp; omega
        have d4 : decide (0 < k) = false := by simp; omega
        have H0 := Lib.hid h0
        clear h0
        go_wp2_with fail
        generalize wr.alloc (.cells #[.int .i64 kk, .string ⟨tt.toArray⟩, .int .i64 nn, .int .i64 aa] 31) = w3 at HT HB3 HB4 ⊢
        clear k0 k1 k2 k3
        obtain ⟨b0, b1, b2, b3, _, _, _, _⟩ := HT.out.cells
        go_big_quiet (fail)
        go_wp2_with fail
        have HTq : Hid (Tkn (w3.drewN nq) wr.heap.size kk ⟨tt.toArray⟩ nn aa) := HT
        have HB3q : Hid (Below w2.heap.size w2 (w3.drewN nq)) := below_drewN HB3.out nq
        generalize w3.drewN nq = wq at HTq HB3q ⊢
        clear b0 b1 b2 b3 HT HB3 HB4
        obtain ⟨b0, b1, b2, b3, _, _, _, _⟩ := HTq.out.cells
        have hce := HCE.out
        have hg := HG.out
        rcases hg with ⟨_, hc, ht, hw, hl⟩ | ⟨_, hn⟩ | ⟨_, hc, hl⟩ | hc | ⟨_, ht, hc⟩
        · have b0' : wq.cell? ⟨wr.heap.size, 0, none⟩ = some (.int .i64 1) := b0
          obtain ⟨q, rfl⟩ := ht
          have hx : (⟨(low c0 :: q).toArray⟩ : ByteArray).data.toList = low c0 :: q := by simp
          generalize (⟨(low c0 :: q).toArray⟩ : ByteArray) = x at b1 hx HTq
          have hxs : x.size = q.length + 1 := by have := congrArg List.length hx; simpa using this
          have hql : q.length ≤ 15 := by simpa using hl
          have hx4 : (1 : Int) ≤ (x.size : Int) := by omega
          have hx5 : 1 ≤ x.size := by omega
          have hmin : min (1 : Int) (x.size : Int) = 1 := by omega
          have hlow : lowS (s.extract aa (aa + 1)) = x.extract 0 1 := by
            apply ba_ext'
            rw [lowS_list, extract_rest, rest_cons s aa hat, Lib.extract_data, hx, hce]
            simp
          have hsz : (s.extract aa (aa + 1)).size ≤ 140737488355328 := by rw [ByteArray.size_extract]; omega
          have hL := fun w1 => lower_any (s.extract aa (aa + 1)) w1 hsz
          rw [hlow] at hL
          have hw1 : IntKind.i64.wrap ((aa : Int) + 1) = (aa : Int) + 1 := IntWalk.i64_in _ (by omega)
          have hn1 : ((aa : Int) + 1).toNat = aa + 1 := by omega
          have p1 : (0 : Int) ≤ (aa : Int) := by omega
          have p2 : (aa : Int) ≤ (aa : Int) + 1 := by omega
          have p3 : (aa : Int) + 1 ≤ (s.size : Int) := by omega
          have p4 : (0 : Int) ≤ (aa : Int) + 1 := by omega
          clear b0 hc hw hl hce hx hlow hsz hql hxs
          go_wp2_with fail
          have hbl : wr.heap.size < wq.heap.size := HTq.out.lt
          have q0 := cell_regrown b0'
          have q1 := cell_regrown b1
          have q3' := cell_regrown b3
          clear b0' b1 b2 b3
          refine wp_region_quiet_below (by kernel_rfl) (by kernel_rfl) ?_
          repeat (go_big_quiet_step (exact Calls.regrown_of (hL _)))
          refine wpQuiet_nil ?_
          intro w5 hw5
          obtain ⟨p, rfl⟩ := hw5
          have HB5 := Lib.hid (HB3q.out.trans ((below_regrown wq p.d p.os).mono HB3q.out.size))
          clear q0 q1 q3'
          go_wp2_with fail
          go_roundw
          case rel => exact ⟨k + 1, hlt, by go_num, HB5.out⟩
          case measure => simp [intOf]; omega
        · have b0' : wq.cell? ⟨wr.heap.size, 0, none⟩ = some (.int .i64 2) := b0
          clear b0 hn hce
          go_big_quiet (fail)
          go_wp2_with fail
          go_roundw
          case rel => exact ⟨k + 1, hlt, by go_num, below_drewN HB3q.out _⟩
          case measure => simp [intOf]; omega
        · have b0' : wq.cell? ⟨wr.heap.size, 0, none⟩ = some (.int .i64 3) := b0
          have hq : s[aa].toNat = 39 := by rw [hce]; simpa [isQuo] using hc
          have hq1 : ((s[aa].toNat : Int) != 39) = false := by simp; omega
          have hq2 : (s[aa].toNat != 39) = false := by simp; omega
          clear b0 hc hl hce hq
          go_big_quiet (fail)
          go_wp2_with fail
          go_roundw
          case rel => exact ⟨k + 1, hlt, by go_num, below_drewN HB3q.out _⟩
          case measure => simp [intOf]; omega
        · have b0' : wq.cell? ⟨wr.heap.size, 0, none⟩ = some (.int .i64 4) := b0
          have hx : (⟨[c0].toArray⟩ : ByteArray).size = 1 ∧ (⟨[c0].toArray⟩ : ByteArray).toList = [c0] ∧ ∀ h, (⟨[c0].toArray⟩ : ByteArray)[0]'h = c0 := ⟨rfl, by rw [ByteArray.toList_eq], fun _ => rfl⟩
          generalize (⟨[c0].toArray⟩ : ByteArray) = x at b1 hx
          obtain ⟨hx1, hx2, hx3⟩ := hx
          have hx4 : (0 : Int) < (x.size : Int) := by omega
          have hx5 : 0 < x.size := by omega
          have hx6 : x.toList.isEmpty = false := by rw [hx2]; rfl
          have hx7 : (x.toList == []) = false := by rw [hx2]; rfl
          have hx8 : ((x[0].toNat : Int) != (s[aa].toNat : Int)) = false := by rw [hx3, hce]; simp
          have hx9 : (x[0].toNat != s[aa].toNat) = false := by rw [hx3, hce]; simp
          clear b0 hx1 hx2 hx3 hce
          go_big_quiet (fail)
          go_wp2_with fail
          go_roundw
          case rel => exact ⟨k + 1, hlt, by go_num, below_drewN HB3q.out _⟩
          case measure => simp [intOf]; omega
        · have b0' : wq.cell? ⟨wr.heap.size, 0, none⟩ = some (.int .i64 4) := b0
          obtain ⟨d, rfl⟩ := hc
          have hx : (⟨[c0, d].toArray⟩ : ByteArray).size = 2 ∧ (⟨[c0, d].toArray⟩ : ByteArray).toList = [c0, d] ∧ ∀ h, (⟨[c0, d].toArray⟩ : ByteArray)[0]'h = c0 := ⟨rfl, by rw [ByteArray.toList_eq], fun _ => rfl⟩
          generalize (⟨[c0, d].toArray⟩ : ByteArray) = x at b1 hx
          obtain ⟨hx1, hx2, hx3⟩ := hx
          have hx4 : (0 : Int) < (x.size : Int) := by omega
          have hx5 : 0 < x.size := by omega
          have hx6 : x.toList.isEmpty = false := by rw [hx2]; rfl
          have hx7 : (x.toList == []) = false := by rw [hx2]; rfl
          have hx8 : ((x[0].toNat : Int) != (s[aa].toNat : Int)) = false := by rw [hx3, hce]; simp
          have hx9 : (x[0].toNat != s[aa].toNat) = false := by rw [hx3, hce]; simp
          clear b0 hx1 hx2 hx3 hce
          go_big_quiet (fail)
          go_wp2_with fail
          go_roundw
          case rel => exact ⟨k + 1, hlt, by go_num, below_drewN HB3q.out _⟩
          case measure => simp [intOf]; omega
      · have d3 : decide ((0 : Int) < (k : Int)) = true := by simp; omega
        have d4 : decide (0 < k) = true := by simp; omega
        obtain ⟨m, hm⟩ : ∃ m, k = m + 1 := ⟨k - 1, by omega⟩
        have hmw : IntKind.i64.wrap ((k : Int) - 1) = (m : Int) := by
          have : (k : Int) - 1 = m := by omega
          rw [this]; exact IntWalk.i64_in _ (by omega)
        have hml : (m : Int) < (l.length : Int) := by omega
        have hml' : m < l.length := by omega
        have hm0 : (0 : Int) ≤ (m : Int) := by omega
        have hpc := HPV.out hpos
        have hpl := HPR.out hpos
        have hkm : k - 1 = m := by omega
        simp only [hkm] at hpc hpl
        generalize l[m] = u at hpc hpl
        obtain ⟨_, _, _, q3⟩ := hpc.below HB4.out (by rw [add_block]; exact hbw)
        have d5 : decide ((aa : Int) ≤ (u.at_ : Int)) = false := by simp; omega
        have d5' : decide (aa ≤ u.at_) = false := by simp; omega
        have HPOS := Lib.hid hpos
        clear hpc hpl hkm hm hpos
        go_wp2_with fail
        generalize wr.alloc (.cells #[.int .i64 kk, .string ⟨tt.toArray⟩, .int .i64 nn, .int .i64 aa] 31) = w3 at HT HB3 HB4 q3 ⊢
        clear k0 k1 k2 k3
        obtain ⟨b0, b1, b2, b3, _, _, _, _⟩ := HT.out.cells
        go_big_quiet (fail)
        go_wp2_with fail
        have HTq : Hid (Tkn (w3.drewN nq) wr.heap.size kk ⟨tt.toArray⟩ nn aa) := HT
        have HB3q : Hid (Below w2.heap.size w2 (w3.drewN nq)) := below_drewN HB3.out nq
        generalize w3.drewN nq = wq at HTq HB3q ⊢
        clear b0 b1 b2 b3 HT HB3 HB4
        obtain ⟨b0, b1, b2, b3, _, _, _, _⟩ := HTq.out.cells
        have hce := HCE.out
        have hg := HG.out
        rcases hg with ⟨_, hc, ht, hw, hl⟩ | ⟨_, hn⟩ | ⟨_, hc, hl⟩ | hc | ⟨_, ht, hc⟩
        · have b0' : wq.cell? ⟨wr.heap.size, 0, none⟩ = some (.int .i64 1) := b0
          obtain ⟨q, rfl⟩ := ht
          have hx : (⟨(low c0 :: q).toArray⟩ : ByteArray).data.toList = low c0 :: q := by simp
          generalize (⟨(low c0 :: q).toArray⟩ : ByteArray) = x at b1 hx HTq
          have hxs : x.size = q.length + 1 := by have := congrArg List.length hx; simpa using this
          have hql : q.length ≤ 15 := by simpa using hl
          have hx4 : (1 : Int) ≤ (x.size : Int) := by omega
          have hx5 : 1 ≤ x.size := by omega
          have hmin : min (1 : Int) (x.size : Int) = 1 := by omega
          have hlow : lowS (s.extract aa (aa + 1)) = x.extract 0 1 := by
            apply ba_ext'
            rw [lowS_list, extract_rest, rest_cons s aa hat, Lib.extract_data, hx, hce]
            simp
          have hsz : (s.extract aa (aa + 1)).size ≤ 140737488355328 := by rw [ByteArray.size_extract]; omega
          have hL := fun w1 => lower_any (s.extract aa (aa + 1)) w1 hsz
          rw [hlow] at hL
          have hw1 : IntKind.i64.wrap ((aa : Int) + 1) = (aa : Int) + 1 := IntWalk.i64_in _ (by omega)
          have hn1 : ((aa : Int) + 1).toNat = aa + 1 := by omega
          have p1 : (0 : Int) ≤ (aa : Int) := by omega
          have p2 : (aa : Int) ≤ (aa : Int) + 1 := by omega
          have p3 : (aa : Int) + 1 ≤ (s.size : Int) := by omega
          have p4 : (0 : Int) ≤ (aa : Int) + 1 := by omega
          clear b0 hc hw hl hce hx hlow hsz hql hxs
          go_wp2_with fail
          have hbl : wr.heap.size < wq.heap.size := HTq.out.lt
          have q0 := cell_regrown b0'
          have q1 := cell_regrown b1
          have q3' := cell_regrown b3
          clear b0' b1 b2 b3
          refine wp_region_quiet_below (by kernel_rfl) (by kernel_rfl) ?_
          repeat (go_big_quiet_step (exact Calls.regrown_of (hL _)))
          refine wpQuiet_nil ?_
          intro w5 hw5
          obtain ⟨p, rfl⟩ := hw5
          have HB5 := Lib.hid (HB3q.out.trans ((below_regrown wq p.d p.os).mono HB3q.out.size))
          clear q0 q1 q3'
          go_wp2_with fail
          go_roundw
          case rel => exact ⟨k + 1, hlt, by go_num, HB5.out⟩
          case measure => simp [intOf]; omega
        · have b0' : wq.cell? ⟨wr.heap.size, 0, none⟩ = some (.int .i64 2) := b0
          clear b0 hn hce
          go_big_quiet (fail)
          go_wp2_with fail
          go_roundw
          case rel => exact ⟨k + 1, hlt, by go_num, below_drewN HB3q.out _⟩
          case measure => simp [intOf]; omega
        · have b0' : wq.cell? ⟨wr.heap.size, 0, none⟩ = some (.int .i64 3) := b0
          have hq : s[aa].toNat = 39 := by rw [hce]; simpa [isQuo] using hc
          have hq1 : ((s[aa].toNat : Int) != 39) = false := by simp; omega
          have hq2 : (s[aa].toNat != 39) = false := by simp; omega
          clear b0 hc hl hce hq
          go_big_quiet (fail)
          go_wp2_with fail
          go_roundw
          case rel => exact ⟨k + 1, hlt, by go_num, below_drewN HB3q.out _⟩
          case measure => simp [intOf]; omega
        · have b0' : wq.cell? ⟨wr.heap.size, 0, none⟩ = some (.int .i64 4) := b0
          have hx : (⟨[c0].toArray⟩ : ByteArray).size = 1 ∧ (⟨[c0].toArray⟩ : ByteArray).toList = [c0] ∧ ∀ h, (⟨[c0].toArray⟩ : ByteArray)[0]'h = c0 := ⟨rfl, by rw [ByteArray.toList_eq], fun _ => rfl⟩
          generalize (⟨[c0].toArray⟩ : ByteArray) = x at b1 hx
          obtain ⟨hx1, hx2, hx3⟩ := hx
          have hx4 : (0 : Int) < (x.size : Int) := by omega
          have hx5 : 0 < x.size := by omega
          have hx6 : x.toList.isEmpty = false := by rw [hx2]; rfl
          have hx7 : (x.toList == []) = false := by rw [hx2]; rfl
          have hx8 : ((x[0].toNat : Int) != (s[aa].toNat : Int)) = false := by rw [hx3, hce]; simp
          have hx9 : (x[0].toNat != s[aa].toNat) = false := by rw [hx3, hce]; simp
          clear b0 hx1 hx2 hx3 hce
          go_big_quiet (fail)
          go_wp2_with fail
          go_roundw
          case rel => exact ⟨k + 1, hlt, by go_num, below_drewN HB3q.out _⟩
          case measure => simp [intOf]; omega
        · have b0' : wq.cell? ⟨wr.heap.size, 0, none⟩ = some (.int .i64 4) := b0
          obtain ⟨d, rfl⟩ := hc
          have hx : (⟨[c0, d].toArray⟩ : ByteArray).size = 2 ∧ (⟨[c0, d].toArray⟩ : ByteArray).toList = [c0, d] ∧ ∀ h, (⟨[c0, d].toArray⟩ : ByteArray)[0]'h = c0 := ⟨rfl, by rw [ByteArray.toList_eq], fun _ => rfl⟩
          generalize (⟨[c0, d].toArray⟩ : ByteArray) = x at b1 hx
          obtain ⟨hx1, hx2, hx3⟩ := hx
          have hx4 : (0 : Int) < (x.size : Int) := by omega
          have hx5 : 0 < x.size := by omega
          have hx6 : x.toList.isEmpty = false := by rw [hx2]; rfl
          have hx7 : (x.toList == []) = false := by rw [hx2]; rfl
          have hx8 : ((x[0].toNat : Int) != (s[aa].toNat : Int)) = false := by rw [hx3, hce]; simp
          have hx9 : (x[0].toNat != s[aa].toNat) = false := by rw [hx3, hce]; simp
          clear b0 hx1 hx2 hx3 hce
          go_big_quiet (fail)
          go_wp2_with fail
          go_roundw
          case rel => exact ⟨k + 1, hlt, by go_num, below_drewN HB3q.out _⟩
          case measure => simp [intOf]; omega
    · obtain rfl : k = l.length := by omega
      go_wp2_with fail
      go_ret
      exact ⟨ret_bool (by simp; omega), HB2.out.trans (HB.out.mono HB2.out.size)⟩
theorem law_places (s : ByteArray) (w : World) (hs : s.size ≤ 140737488355328) (hr : Ran w) :
    Calls Tryd.prog 5 #[.string s] w fun e w' => e = .returned (.bool true) ∧ Below w.heap.size w w' := by
  cases h : lexL s.data.toList with
  | ok l => exact places_ok s l w hs hr h
  | err a x => exact places_err s a x w hs hr h
end Go.Proofs.YtcliineiokgenaaDoor
