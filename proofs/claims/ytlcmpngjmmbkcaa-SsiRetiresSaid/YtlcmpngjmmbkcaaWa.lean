/- SsiRetires of the statements answers true for any state: the walk. Conditions: a state that is read in memory, within reach. -/
import Derived.Test.YtlcmpngjmmbkcaaVm
namespace Go.Proofs.Ytlcmpngjmmbkcaa
open Go.RowKit Go.Sort Go.Maps
set_option linter.unusedSimpArgs false
set_option linter.unusedVariables false

theorem Bx.below1' {W : World} {g : Nat} {a b c : Value} (h : Bx W g a b c) (o : Obj) : Bx (W.alloc o) g a b c := h.below (below1 _ _)
set_option maxRecDepth 100000 in
set_option maxHeartbeats 4000000 in
theorem kRetires_bad (A : Option Addr) (n c : Nat) (s : St) (w : World) (hr : Rd w A n c s.l) (hn : n * 32 ≤ 140737488355328) (hOk : ¬ Ok s) :
    Calls Try.prog 5 #[.agg #[.slice A n c, .int .i64 s.c, .int .i64 s.n]] w fun e w' => e = .returned (.bool true) ∧ Below w.heap.size w w' := by
  have HA := Lib.hid fun W => alive_any W
  have HO := Lib.hid fun W (hb : Below w.heap.size w W) => of_any A n c s W (hr.below hb) hn
  have hret : retR s = (zS, [], 9) := if_neg hOk
  have HR := Lib.hid fun A n c W (hr : Rd W A n c s.l) => retire_any A n c s W hr
  rw [hret] at HR
  have HN := Lib.hid fun k W => num_any k W
  have HX := Lib.hid (Bx.new w (.slice A n c) (.int .i64 s.c) (.int .i64 s.n) 24)
  have HB := Lib.hid (below1 w (.cells #[.slice A n c, .int .i64 s.c, .int .i64 s.n] 24))
  clear hr hOk hret
  go_enter Try.func5, Try.ntmps5
  go_upto_region 1 with fail
  generalize w.alloc (.cells #[.slice A n c, .int .i64 s.c, .int .i64 s.n] 24) = W0 at *
  go_upto_region 4 with (first | (go_at_call 7; (with_reducible refine (HA.out _).mono ?_); rintro e w1 ⟨rfl, hb⟩; have HB1 := Lib.hid (thn HB.out hb); have HX1 := Lib.hid (HX.out.below hb); obtain ⟨x0, x1, x2, _, _, _⟩ := HX1.out; clear hb) | (go_at_call 9; (with_reducible refine (HO.out _ HB1.out).mono ?_); rintro e w2 ⟨A2, n2, c2, rfl, hr2, hb⟩; have HR2 := Lib.hid hr2; have HB2 := Lib.hid (thn HB1.out hb); clear hr2 hb) | (go_at_call 15; (with_reducible refine (HR.out _ _ _ _ HR2.out).mono ?_); rintro e w3 ⟨A3, n3, c3, B3, m3, d3, rfl, hr3, hi3, hb⟩; have HB3 := Lib.hid (thn HB2.out hb); have hn3 : n3 = 0 := hr3.len.symm; have hm3 : m3 = 0 := hi3.len.symm; subst hn3 hm3; clear hr3 hi3 hb))
  have HB4 := Lib.hid (thn HB3.out (below1 w3 (.cells #[.slice A3 0 c3, .int .i64 zS.c, .int .i64 zS.n] 28)))
  have hs := cell_last w3 #[.slice A3 0 c3, .int .i64 zS.c, .int .i64 zS.n] 28 w3.heap.size 0 rfl
  have hl := cell_lt hs
  go_wp2_with (go_at_call 10; (with_reducible refine (HN.out _ _).mono ?_); rintro e w9 ⟨rfl, rfl⟩)
  go_ret
  exact ⟨rfl, HB4.out⟩
/-- The one of that ID that stands last. -/
def lastY (i : Int) (l : List Tx) : Tx := l.foldl (fun a t => if t.i = i then t else a) zT
theorem lastY_app (i : Int) (l : List Tx) (t : Tx) : lastY i (l ++ [t]) = if t.i = i then t else lastY i l := by simp [lastY]
theorem fold_mem (i : Int) : ∀ (l : List Tx) (a : Tx), (l.foldl (fun a t => if t.i = i then t else a) a ∈ l ∧ (l.foldl (fun a t => if t.i = i then t else a) a).i = i) ∨ ((∀ t ∈ l, t.i ≠ i) ∧ l.foldl (fun a t => if t.i = i then t else a) a = a)
  | [], a => .inr ⟨by simp, rfl⟩
  | t :: r, a => by
    simp only [List.foldl_cons]
    rcases fold_mem i r (if t.i = i then t else a) with h | ⟨h1, h2⟩
    · exact .inl ⟨by simp [h.1], h.2⟩
    · rw [h2]
      by_cases e : t.i = i
      · rw [if_pos e]
        exact .inl ⟨by simp, e⟩
      · rw [if_neg e]
        refine .inr ⟨fun u hu => ?_, rfl⟩
        rcases List.mem_cons.1 hu with rfl | k
        · exact e
        · exact h1 u k
theorem lastY_mem {i : Int} {l : List Tx} (h : ∃ t ∈ l, t.i = i) : lastY i l ∈ l ∧ (lastY i l).i = i := by
  rcases fold_mem i l zT with k | k
  · exact k
  · obtain ⟨t, ht, e⟩ := h
    exact absurd e (k.1 t ht)
/-- A box of five cells that may be written. -/
structure B5 (W : World) (g : Nat) (t : Tx) : Prop where
  c0 : W.cell? ⟨g, 0, none⟩ = some (.int .i64 t.i)
  c1 : W.cell? ⟨g, 1, none⟩ = some (.int .i64 t.s)
  c2 : W.cell? ⟨g, 2, none⟩ = some (.int .i64 t.e)
  c3 : W.cell? ⟨g, 3, none⟩ = some (.bool t.a)
  c4 : W.cell? ⟨g, 4, none⟩ = some (.bool t.o)
  fr : ∀ o, W.frozen? ⟨g, o, none⟩ = false
theorem B5.below {W W' : World} {g : Nat} {t : Tx} (h : B5 W g t) (hb : Below W.heap.size W W') : B5 W' g t :=
  ⟨cell_keep h.c0 hb, cell_keep h.c1 hb, cell_keep h.c2 hb, cell_keep h.c3 hb, cell_keep h.c4 hb, fun o => (hb.frozen (p := ⟨g, o, none⟩) (show g < W.heap.size from cell_lt h.c0)).trans (h.fr o)⟩
theorem B5.new (W : World) (t : Tx) (T : TypeId) : B5 (W.alloc (.cells #[.int .i64 t.i, .int .i64 t.s, .int .i64 t.e, .bool t.a, .bool t.o] T)) W.heap.size t :=
  ⟨cell_last W _ _ _ _ rfl, cell_last W _ _ _ _ rfl, cell_last W _ _ _ _ rfl, cell_last W _ _ _ _ rfl, cell_last W _ _ _ _ rfl, fun o => World.frozen?_alloc_at _ _ _ _ rfl⟩
theorem B5.put {W : World} {g : Nat} {t : Tx} (h : B5 W g t) (u : Tx) : B5 (((((W.setCell ⟨g, 0, none⟩ (.int .i64 u.i)).setCell ⟨g, 1, none⟩ (.int .i64 u.s)).setCell ⟨g, 2, none⟩ (.int .i64 u.e)).setCell ⟨g, 3, none⟩ (.bool u.a)).setCell ⟨g, 4, none⟩ (.bool u.o)) g u := by
  have o1 := fun (W : World) (i j : Nat) (v : Value) (h : i ≠ j) => World.cell?_setCell_other W ⟨g, i, none⟩ ⟨g, j, none⟩ v (by simp [h])
  refine ⟨?_, ?_, ?_, ?_, ?_, fun o => by simp only [World.frozen?_setCell]; exact h.fr o⟩
  · rw [o1 _ 4 0 _ (by omega), o1 _ 3 0 _ (by omega), o1 _ 2 0 _ (by omega), o1 _ 1 0 _ (by omega)]
    exact set_same _ h.c0
  · rw [o1 _ 4 1 _ (by omega), o1 _ 3 1 _ (by omega), o1 _ 2 1 _ (by omega)]
    exact set_same _ ((o1 _ 0 1 _ (by omega)).trans h.c1)
  · rw [o1 _ 4 2 _ (by omega), o1 _ 3 2 _ (by omega)]
    exact set_same _ ((o1 _ 1 2 _ (by omega)).trans ((o1 _ 0 2 _ (by omega)).trans h.c2))
  · rw [o1 _ 4 3 _ (by omega)]
    exact set_same _ ((o1 _ 2 3 _ (by omega)).trans ((o1 _ 1 3 _ (by omega)).trans ((o1 _ 0 3 _ (by omega)).trans h.c3)))
  · exact set_same _ ((o1 _ 3 4 _ (by omega)).trans ((o1 _ 2 4 _ (by omega)).trans ((o1 _ 1 4 _ (by omega)).trans ((o1 _ 0 4 _ (by omega)).trans h.c4))))
/-- Who goes had ended when each active one began. -/
theorem gone_ended {s : St} (h : Ok s) {x t : Tx} (hx : x ∈ s.l) (hg : goB (minS s.c s.l) x = true) (ht : t ∈ s.l) : x.e ≠ 0 ∧ (0 < x.e → t.e = 0 → ¬ t.s < x.e) := by
  have hm := (minS_le s.c s.l).2 t ht
  simp [goB, ahdB] at hg
  refine ⟨by omega, fun h0 h1 => ?_⟩
  have := hm h1
  omega
theorem filter_sum (p : Tx → Bool) (l : List Tx) : (l.filter fun t => !p t).length + (l.filter p).length = l.length := by
  induction l with
  | nil => rfl
  | cons a l ih =>
    cases h : p a
    · rw [List.filter_cons_of_pos (by simp [h]), List.filter_cons_of_neg (by simp [h])]
      simp
      omega
    · rw [List.filter_cons_of_neg (by simp [h]), List.filter_cons_of_pos (by simp [h])]
      simp
      omega
set_option maxRecDepth 100000 in
set_option maxHeartbeats 16000000 in
theorem kRetires_ok (A : Option Addr) (n c : Nat) (s : St) (w : World) (hr : Rd w A n c s.l) (hn : n * 32 ≤ 140737488355328) (hOk : Ok s) :
    Calls Try.prog 5 #[.agg #[.slice A n c, .int .i64 s.c, .int .i64 s.n]] w fun e w' => e = .returned (.bool true) ∧ Below w.heap.size w w' := by
  have hlen := hr.len
  have hn64 := hOk.len
  have HA := Lib.hid fun W => alive_any W
  have HO := Lib.hid fun W (hb : Below w.heap.size w W) => of_any A n c s W (hr.below hb) hn
  have hret : retR s = (⟨s.l.filter (fun t => !goB (minS s.c s.l) t), s.c, s.n⟩, (s.l.filter (goB (minS s.c s.l))).map Tx.i, 0) := if_pos hOk
  have HR := Lib.hid fun A n c W (hr : Rd W A n c s.l) => retire_any A n c s W hr
  rw [hret] at HR
  have hsum := filter_sum (goB (minS s.c s.l)) s.l
  have HEX := Lib.hid fun (i : Int) (hi : i ∈ (s.l.filter (goB (minS s.c s.l))).map Tx.i) => (show ∃ t ∈ s.l, t.i = i by
    obtain ⟨t, ht, e⟩ := List.mem_map.1 hi
    exact ⟨t, (List.mem_filter.1 ht).1, e⟩)
  have HEN := Lib.hid fun (i : Int) (hi : i ∈ (s.l.filter (goB (minS s.c s.l))).map Tx.i) (x : Tx) (hx : x ∈ s.l) (he : x.i = i) (t : Tx) (ht : t ∈ s.l) => (show x.e ≠ 0 ∧ (0 < x.e → t.e = 0 → ¬ t.s < x.e) by
    obtain ⟨u, hu, e⟩ := List.mem_map.1 hi
    obtain ⟨h1, h2⟩ := List.mem_filter.1 hu
    have e2 := hOk.uniq hx h1 (he.trans e.symm)
    subst e2
    exact gone_ended hOk h1 h2 ht)
  have hgl : (s.l.filter (goB (minS s.c s.l))).length ≤ 64 := Nat.le_trans (List.length_filter_le _ _) hn64
  have hst : (s.l.filter fun t => !goB (minS s.c s.l) t).length ≤ 64 := Nat.le_trans (List.length_filter_le _ _) hn64
  have hgm : ((s.l.filter (goB (minS s.c s.l))).map Tx.i).length = (s.l.filter (goB (minS s.c s.l))).length := List.length_map _
  rw [← hgm] at hsum hgl
  clear hgm
  have HN := Lib.hid fun k W => num_any k W
  have HX := Lib.hid (Bx.new w (.slice A n c) (.int .i64 s.c) (.int .i64 s.n) 24)
  have HB := Lib.hid (below1 w (.cells #[.slice A n c, .int .i64 s.c, .int .i64 s.n] 24))
  have HRD := Lib.hid hr
  clear hr hOk hret
  generalize (s.l.filter (goB (minS s.c s.l))).map Tx.i = G at *
  generalize s.l.filter (fun t => !goB (minS s.c s.l) t) = F at *
  subst hlen
  go_enter Try.func5, Try.ntmps5
  go_upto_region 1 with fail
  generalize w.alloc (.cells #[.slice A s.l.length c, .int .i64 s.c, .int .i64 s.n] 24) = W0 at *
  go_upto_region 4 with (first | (go_at_call 7; (with_reducible refine (HA.out _).mono ?_); rintro e w1 ⟨rfl, hb⟩; have HB1 := Lib.hid (thn HB.out hb); have HX1 := Lib.hid (HX.out.below hb); obtain ⟨x0, x1, x2, _, _, _⟩ := HX1.out; clear hb) | (go_at_call 9; (with_reducible refine (HO.out _ HB1.out).mono ?_); rintro e w2 ⟨A2, n2, c2, rfl, hr2, hb⟩; have HR2 := Lib.hid hr2; have HB2 := Lib.hid (thn HB1.out hb); have HX2 := Lib.hid (HX1.out.below hb); clear hr2 hb) | (go_at_call 15; (with_reducible refine (HR.out _ _ _ _ HR2.out).mono ?_); rintro e w3 ⟨A3, n3, c3, B3, m3, d3, rfl, hr3, hi3, hb⟩; have HB3 := Lib.hid (thn HB2.out hb); have HX3 := Lib.hid (HX2.out.below hb); have HF3 : Hid (n3 = F.length) := Lib.hid hr3.len.symm; have hm3 : m3 = G.length := hi3.len.symm; subst hm3; have HI3 := Lib.hid hi3; clear hr3 hi3 hb))
  obtain rfl := HF3.out
  have hb4 := below1 w3 (.cells #[.slice A3 F.length c3, .int .i64 s.c, .int .i64 s.n] 28)
  have HB4 := Lib.hid (thn HB3.out hb4)
  have HX4 := Lib.hid (HX3.out.below hb4)
  have HI4 := Lib.hid (HI3.out.below hb4)
  have hs := cell_last w3 #[.slice A3 F.length c3, .int .i64 s.c, .int .i64 s.n] 28 w3.heap.size 0 rfl
  have HS4 := Lib.hid hs
  clear HX3 HB3 HI3 HX2 HB2 HR2 HX1 HB1 HX HB x0 x1 x2 hb4 hs HF3
  generalize w3.alloc (.cells #[.slice A3 F.length c3, .int .i64 s.c, .int .i64 s.n] 28) = W4 at *
  generalize w3.heap.size = g at *
  go_wp2_with (go_at_call 10; (with_reducible refine (HN.out _ _).mono ?_); rintro e w9 ⟨rfl, rfl⟩)
  go_loopw [6, 7, 8, 9] (fun i _ _ _ wr => ∃ j : Nat, i = .int .i64 j ∧ j ≤ G.length ∧ Below W4.heap.size W4 wr) (fun i _ _ _ _ => G.length - (intOf i).toNat)
  case atStart => exact ⟨0, rfl, by omega, Below.refl _ _⟩
  case round =>
    obtain ⟨j, rfl, hj, hB⟩ := hrel
    have HBJ := Lib.hid hB
    clear hB
    by_cases hlt : j < G.length
    · have hjl : (j : Int) < (G.length : Int) := by omega
      obtain ⟨bd, rfl, k0⟩ := HI4.out.at_ (k := j) hlt
      have hid := HEX.out G[j] (List.getElem_mem hlt)
      have HEE := Lib.hid (HEN.out G[j] (List.getElem_mem hlt))
      have HK0 := Lib.hid k0
      have HID := Lib.hid hid
      have hjc : (j : Int) < 9223372036854775807 := by omega
      generalize G[j] = i at *
      clear k0 hid
      have HX5 := Lib.hid (HX4.out.below HBJ.out)
      obtain ⟨x0, x1, x2, _, _, _⟩ := HX5.out
      go_upto_region 10 with fail
      have HZ6 := Lib.hid (B5.new wr zT 50)
      have HB6 := Lib.hid (below1 wr (.cells #[.int .i64 0, .int .i64 0, .int .i64 0, .bool false, .bool false] 50))
      have HZ6' : Hid (B5 (wr.alloc (.cells #[.int .i64 0, .int .i64 0, .int .i64 0, .bool false, .bool false] 50)) wr.heap.size zT) := Lib.hid HZ6.out
      clear x0 x1 x2 HX5 HZ6
      generalize wr.alloc (.cells #[.int .i64 0, .int .i64 0, .int .i64 0, .bool false, .bool false] 50) = W6 at *
      have hgx : Hid (wr.heap.size ≤ wr.heap.size) := Lib.hid (Nat.le_refl _)
      generalize hgg : wr.heap.size = gx at HZ6' ⊢
      have HGX := Lib.hid hgg
      clear hgg hgx
      generalize hwr : wr = WJ at *
      clear hwr
      go_wp2_with fail
      go_loopw [8] (fun k wr => ∃ q : Nat, k = .int .i64 q ∧ q ≤ s.l.length ∧ B5 wr gx (lastY i (s.l.take q)) ∧ Below WJ.heap.size WJ wr) (fun k _ => s.l.length - (intOf k).toNat)
      case atStart => exact ⟨0, rfl, by omega, HZ6'.out, HB6.out⟩
      case round =>
        obtain ⟨q, rfl, hq, hZ, hB⟩ := hrel
        have HZ := Lib.hid hZ
        have HBQ := Lib.hid hB
        clear hZ hB HZ6' HB6
        have HB7 := Lib.hid (thn HBJ.out HBQ.out)
        have HX7 := Lib.hid (HX4.out.below HB7.out)
        obtain ⟨x0, x1, x2, _, _, _⟩ := HX7.out
        have h1 := cell_lt x0
        by_cases hlq : q < s.l.length
        · have hql : (q : Int) < (s.l.length : Int) := by omega
          obtain ⟨ad, rfl, t0, t1, t2, t3, t4⟩ := (HRD.out.below (thn HB4.out HB7.out)).at_ hlq
          have hbt := cell_lt t0
          rw [add_block] at hbt
          have k0 := cell_keep HK0.out HB7.out
          have hbk := cell_lt k0
          rw [add_block] at hbk
          have hst : s.l.take (q + 1) = s.l.take q ++ [s.l[q]] := List.take_succ_eq_append_getElem hlq
          have hla := lastY_app i (s.l.take q) s.l[q]
          rw [← hst] at hla
          have HLA := Lib.hid hla
          clear hla hst
          generalize s.l[q] = v at *
          generalize lastY i (s.l.take q) = X at *
          cases hE : (v.i == i)
          · have HLB : Hid (lastY i (s.l.take (q + 1)) = X) := Lib.hid (by rw [HLA.out, if_neg (by simpa using hE)])
            go_upto_region 13 with fail
            have p0 := cell_regrown x0
            have p1 := cell_regrown t0
            have p2 := cell_regrown k0
            clear x0 t0 k0 x1 x2 t1 t2 t3 t4
            refine wp_region_quiet_below (by kernel_rfl) (by kernel_rfl) ?_
            repeat (go_big_quiet_step (fail))
            refine wpQuiet_nil ?_
            intro w8 hw8
            obtain ⟨pp, rfl⟩ := hw8
            have HB8 := Lib.hid (below_regrown wr pp.d pp.os)
            clear p0 p1 p2
            generalize grow (redrawn wr pp.d) pp.os = W8 at *
            go_wp2
            go_roundw
            case rel => exact ⟨q + 1, by go_num, hlq, by rw [HLB.out]; exact HZ.out.below HB8.out, thn HBQ.out HB8.out⟩
            case measure => simp [intOf]; omega
          · have HLB : Hid (lastY i (s.l.take (q + 1)) = v) := Lib.hid (by rw [HLA.out, if_pos (by simpa using hE)])
            have HT7 := Lib.hid (And.intro t0 (And.intro t1 (And.intro t2 (And.intro t3 t4))))
            go_upto_region 13 with fail
            have p0 := cell_regrown x0
            have p1 := cell_regrown t0
            have p2 := cell_regrown k0
            clear x0 t0 k0 x1 x2 t1 t2 t3 t4
            refine wp_region_quiet_below (by kernel_rfl) (by kernel_rfl) ?_
            repeat (go_big_quiet_step (fail))
            refine wpQuiet_nil ?_
            intro w8 hw8
            obtain ⟨pp, rfl⟩ := hw8
            have hb8 := below_regrown wr pp.d pp.os
            have HZ8 := Lib.hid (HZ.out.below hb8)
            have HX8 := Lib.hid (HX7.out.below hb8)
            have HB8 := Lib.hid (thn HBQ.out hb8)
            have t0 := cell_keep HT7.out.1 hb8
            have t1 := cell_keep HT7.out.2.1 hb8
            have t2 := cell_keep HT7.out.2.2.1 hb8
            have t3 := cell_keep HT7.out.2.2.2.1 hb8
            have t4 := cell_keep HT7.out.2.2.2.2 hb8
            clear p0 p1 p2 hb8 HT7
            generalize grow (redrawn wr pp.d) pp.os = W8 at *
            obtain ⟨x0, x1, x2, _, _, _⟩ := HX8.out
            obtain ⟨z0, z1, z2, z3, z4, zf⟩ := HZ8.out
            have hbt := cell_lt t0
            rw [add_block] at hbt
            have h8 := cell_lt x0
            have h9 := cell_lt z0
            go_wp2
            go_roundw
            case rel => exact ⟨q + 1, by go_num, hlq, by rw [HLB.out]; exact HZ8.out.put v, ((((HB8.out.setCell (p := ⟨gx, 0, none⟩) (Nat.le_of_eq HGX.out) _).setCell (p := ⟨gx, 1, none⟩) (Nat.le_of_eq HGX.out) _).setCell (p := ⟨gx, 2, none⟩) (Nat.le_of_eq HGX.out) _).setCell (p := ⟨gx, 3, none⟩) (Nat.le_of_eq HGX.out) _).setCell (p := ⟨gx, 4, none⟩) (Nat.le_of_eq HGX.out) _⟩
            case measure => simp [intOf]; omega
        · have hql : ¬ (q : Int) < (s.l.length : Int) := by omega
          obtain rfl : q = s.l.length := by omega
          have hZ := HZ.out
          rw [List.take_length] at hZ
          obtain ⟨hx1, hx2⟩ := lastY_mem HID.out
          have HENX := Lib.hid fun t ht => HEE.out _ hx1 hx2 t ht
          generalize lastY i s.l = X at *
          have HZ9 := Lib.hid hZ
          clear hZ hx1 hx2 HZ
          go_wp2_with fail
          generalize hwr : wr = WK at *
          clear hwr x0 x1 x2 h1 HBQ
          go_loopw [9] (fun k wr => ∃ q : Nat, k = .int .i64 q ∧ q ≤ s.l.length ∧ Below WK.heap.size WK wr) (fun k _ => s.l.length - (intOf k).toNat)
          case atStart => exact ⟨0, rfl, by omega, Below.refl _ _⟩
          case round =>
            obtain ⟨q, rfl, hq, hB⟩ := hrel
            have HBQ := Lib.hid hB
            clear hB
            have HX8 := Lib.hid (HX7.out.below HBQ.out)
            have HZ8 := Lib.hid (HZ9.out.below HBQ.out)
            obtain ⟨x0, x1, x2, _, _, _⟩ := HX8.out
            obtain ⟨z0, z1, z2, z3, z4, zf⟩ := HZ8.out
            have h1 := cell_lt x0
            have h2 := cell_lt z0
            by_cases hlq : q < s.l.length
            · have hql : (q : Int) < (s.l.length : Int) := by omega
              obtain ⟨ad, rfl, t0, t1, t2, t3, t4⟩ := (HRD.out.below (thn HB4.out (thn HB7.out HBQ.out))).at_ hlq
              have hbt := cell_lt t0
              rw [add_block] at hbt
              obtain ⟨hne, hno⟩ := HENX.out _ (List.getElem_mem hlq)
              generalize s.l[q] = v at *
              have e0 : (X.e == 0) = false := by simpa using hne
              by_cases hp : 0 < X.e
              · have e1 : decide (0 < X.e) = true := decide_eq_true hp
                by_cases hv : v.e = 0
                · have e2 : (v.e == 0) = true := by simpa using hv
                  have e3 : decide (v.s < X.e) = false := decide_eq_false (by have := hno hp hv; omega)
                  clear hne hno hp hv
                  go_upto_region 18 with fail
                  have p0 := cell_regrown x0
                  have p1 := cell_regrown t1
                  have p2 := cell_regrown t2
                  have p3 := cell_regrown z2
                  clear x0 x1 x2 t0 t1 t2 t3 t4 z0 z1 z2 z3 z4 zf
                  refine wp_region_quiet_below (by kernel_rfl) (by kernel_rfl) ?_
                  repeat (go_big_quiet_step (fail))
                  refine wpQuiet_nil ?_
                  intro w8 hw8
                  obtain ⟨pp, rfl⟩ := hw8
                  have HB8 := Lib.hid (below_regrown wr pp.d pp.os)
                  clear p0 p1 p2 p3
                  generalize grow (redrawn wr pp.d) pp.os = W8 at *
                  go_wp2
                  go_roundw
                  case rel => exact ⟨q + 1, by go_num, hlq, thn HBQ.out HB8.out⟩
                  case measure => simp [intOf]; omega
                · have e2 : (v.e == 0) = false := by simpa using hv
                  clear hne hno hp hv
                  go_upto_region 18 with fail
                  have p0 := cell_regrown x0
                  have p1 := cell_regrown t1
                  have p2 := cell_regrown t2
                  have p3 := cell_regrown z2
                  clear x0 x1 x2 t0 t1 t2 t3 t4 z0 z1 z2 z3 z4 zf
                  refine wp_region_quiet_below (by kernel_rfl) (by kernel_rfl) ?_
                  repeat (go_big_quiet_step (fail))
                  refine wpQuiet_nil ?_
                  intro w8 hw8
                  obtain ⟨pp, rfl⟩ := hw8
                  have HB8 := Lib.hid (below_regrown wr pp.d pp.os)
                  clear p0 p1 p2 p3
                  generalize grow (redrawn wr pp.d) pp.os = W8 at *
                  go_wp2
                  go_roundw
                  case rel => exact ⟨q + 1, by go_num, hlq, thn HBQ.out HB8.out⟩
                  case measure => simp [intOf]; omega
              · have e1 : decide (0 < X.e) = false := decide_eq_false hp
                clear hne hno hp
                go_upto_region 18 with fail
                have p0 := cell_regrown x0
                have p1 := cell_regrown t1
                have p2 := cell_regrown t2
                have p3 := cell_regrown z2
                clear x0 x1 x2 t0 t1 t2 t3 t4 z0 z1 z2 z3 z4 zf
                refine wp_region_quiet_below (by kernel_rfl) (by kernel_rfl) ?_
                repeat (go_big_quiet_step (fail))
                refine wpQuiet_nil ?_
                intro w8 hw8
                obtain ⟨pp, rfl⟩ := hw8
                have HB8 := Lib.hid (below_regrown wr pp.d pp.os)
                clear p0 p1 p2 p3
                generalize grow (redrawn wr pp.d) pp.os = W8 at *
                go_wp2
                go_roundw
                case rel => exact ⟨q + 1, by go_num, hlq, thn HBQ.out HB8.out⟩
                case measure => simp [intOf]; omega
            · have hql : ¬ (q : Int) < (s.l.length : Int) := by omega
              have HBF := Lib.hid (thn HB7.out HBQ.out)
              go_wp2_with fail
              go_roundw
              case rel => exact ⟨j + 1, by go_num, hlt, HBF.out⟩
              case measure => simp [intOf]; omega
    · have hjl : ¬ (j : Int) < (G.length : Int) := by omega
      have HXE := Lib.hid (HX4.out.below HBJ.out)
      obtain ⟨x0, x1, x2, _, _, _⟩ := HXE.out
      have hs := cell_keep HS4.out HBJ.out
      have h1 := cell_lt hs
      have h2 := cell_lt x0
      have hsum' : (F.length : Int) + (G.length : Int) = (s.l.length : Int) := by omega
      go_wp2_with fail
      go_ret
      exact ⟨ret_bool (by simp), thn HB4.out HBJ.out⟩
theorem kRetires_any (A : Option Addr) (n c : Nat) (s : St) (w : World) (hr : Rd w A n c s.l) (hn : n * 32 ≤ 140737488355328) :
    Calls Try.prog 5 #[.agg #[.slice A n c, .int .i64 s.c, .int .i64 s.n]] w fun e w' => e = .returned (.bool true) ∧ Below w.heap.size w w' := by
  by_cases hOk : Ok s
  · exact kRetires_ok A n c s w hr hn hOk
  · exact kRetires_bad A n c s w hr hn hOk
end Go.Proofs.Ytlcmpngjmmbkcaa
