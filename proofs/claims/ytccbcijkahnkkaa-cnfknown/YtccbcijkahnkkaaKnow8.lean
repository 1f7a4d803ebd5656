/- The closed statement's own function CnfKnown answers true: the walk. -/
import Derived.Test.YtccbcijkahnkkaaKnow
import Derived.Deep.RegionWith
import Derived.Deep.RegionHeld3
import Derived.Deep.DrawnRows
namespace Go.Proofs.Ytccbcijkahnkkaa
open Go.RowKit Go.Sort
set_option linter.unusedVariables false
attribute [local go_sem ↓] Go.wp_at_zero Go.wp_at_succ

theorem Cls.take {w : World} {a : Option Addr} {cs : List (List Int)} (h : Cls w a cs) (j : Nat) : Cls w a (cs.take j) := by
  refine ⟨fun c hc => h.1 c (List.mem_of_mem_take hc), ?_⟩
  rcases h.2 with h | ⟨b, off, e, hl, hc⟩
  · left; rw [h]; simp
  · refine .inr ⟨b, off, e, hl, fun i hi => ?_⟩
    have hi' : i < j ∧ i < cs.length := by simp at hi; omega
    have e2 : (cs.take j).getD i [] = cs.getD i [] := by simp [List.getD, hi'.1]
    rw [e2]; exact hc i hi'.2

theorem info33 : (Try.prog.info? 33).map (fun i => (i.zero, i.size, i.bytes)) = some (some (.slice none 0 0), 1, 24) := by kernel_rfl
theorem made_nil {w : World} {base g n : Nat} (h : w.ownsRow base 33 1 (.slice (some ⟨g, 0, none⟩) n n) n (madeCells #[Value.slice none 0 0] n).toList) : ∀ j, j < n → w.cell? ⟨g, j, none⟩ = some (.slice none 0 0) := by
  intro j hj
  have hx : (madeCells #[Value.slice none 0 0] n).toList[j]? = some (.slice none 0 0) := by
    simp [madeCells, hj, Nat.mod_one]
  have h2 := h.cells (g := g) rfl j _ hx
  have hadd : (⟨g, 0, none⟩ : Addr).add j = ⟨g, j, none⟩ := by unfold Addr.add; split <;> simp_all
  rw [hadd] at h2
  exact h2
theorem flat_nil (m : Nat) : (List.replicate m ([] : List Int)).flatten = [] := by simp
theorem cls_nil {W W' : World} {g n : Nat} (hg : g < W.heap.size) (hc : ∀ j, j < n → W.cell? ⟨g, j, none⟩ = some (.slice none 0 0)) (hW : Below W.heap.size W W') : Cls W' (some ⟨g, 1, none⟩) (List.replicate (n - 1) []) := by
  refine ⟨fun c hc => by rw [List.eq_of_mem_replicate hc]; simp, .inr ⟨g, 1, rfl, Nat.lt_of_lt_of_le hg hW.size, fun j hj => ?_⟩⟩
  have hj' : j < n - 1 := by simpa using hj
  have e : (List.replicate (n - 1) ([] : List Int)).getD j [] = [] := by simp [List.getD, hj']
  rw [e]
  refine ⟨none, 0, ?_, ⟨(fun x hx => by simp at hx), .inl rfl⟩⟩
  rw [hW.cell (p := ⟨g, 1 + j, none⟩) hg, hc (1 + j) (by omega)]
  rfl

set_option maxHeartbeats 8000000 in
set_option maxRecDepth 100000 in
theorem known8 (w : World) : Calls Try.prog 8 #[] w fun e w' => e = .returned (.bool true) ∧ Below w.heap.size w w' := by
  go_enter Try.func8, Try.ntmps8
  go_upto_region 1 with fail
  go_cut [1] (fun s wc => ∃ g, s = .slice (some ⟨g, 0, none⟩) 14 14 ∧ Cls wc (some ⟨g, 0, none⟩) knownCs ∧ Below w.heap.size w wc)
  case first =>
    go_wp2
    go_meet
    case rel =>
      refine ⟨_, rfl, cls_new _ _ (by simp) [(none, 0, []), (some ⟨w.heap.size, 0, none⟩, 1, [1]), (some ⟨w.heap.size + 1, 0, none⟩, 1, [-1]), (some ⟨w.heap.size + 1 + 1, 0, none⟩, 1, [0]), (some ⟨w.heap.size + 1 + 1 + 1, 0, none⟩, 2, [1, -1]), (some ⟨w.heap.size + 1 + 1 + 1 + 1, 0, none⟩, 4, [3, -1, 3, 2]), (some ⟨w.heap.size + 1 + 1 + 1 + 1 + 1, 0, none⟩, 2, [1, 2]), (some ⟨w.heap.size + 1 + 1 + 1 + 1 + 1 + 1, 0, none⟩, 3, [2, 1, 2]), (some ⟨w.heap.size + 1 + 1 + 1 + 1 + 1 + 1 + 1, 0, none⟩, 2, [-1, 3]), (some ⟨w.heap.size + 1 + 1 + 1 + 1 + 1 + 1 + 1 + 1, 0, none⟩, 2, [-1, -2]), (some ⟨w.heap.size + 1 + 1 + 1 + 1 + 1 + 1 + 1 + 1 + 1, 0, none⟩, 2, [-2147483648, 2147483647]), (some ⟨w.heap.size + 1 + 1 + 1 + 1 + 1 + 1 + 1 + 1 + 1 + 1, 0, none⟩, 2, [2147483647, -2147483647]), (some ⟨w.heap.size + 1 + 1 + 1 + 1 + 1 + 1 + 1 + 1 + 1 + 1 + 1, 0, none⟩, 2, [0, 0]), (some ⟨w.heap.size + 1 + 1 + 1 + 1 + 1 + 1 + 1 + 1 + 1 + 1 + 1 + 1, 0, none⟩, 6, [5, 4, 3, 2, 1, -5])] ?_, ?_⟩
      · intro r hr
        simp only [List.mem_cons, List.not_mem_nil, or_false] at hr
        rcases hr with rfl | rfl | rfl | rfl | rfl | rfl | rfl | rfl | rfl | rfl | rfl | rfl | rfl | rfl
        · exact ⟨⟨(fun x hx => by simp at hx), .inl rfl⟩, by simp⟩
        · exact ⟨((((((((((((lits_new' _ [1] _ (by simp) (by decide)).alloc _).alloc _).alloc _).alloc _).alloc _).alloc _).alloc _).alloc _).alloc _).alloc _).alloc _).alloc _, by simp⟩
        · exact ⟨(((((((((((lits_new' _ [-1] _ (by simp) (by decide)).alloc _).alloc _).alloc _).alloc _).alloc _).alloc _).alloc _).alloc _).alloc _).alloc _).alloc _, by simp⟩
        · exact ⟨((((((((((lits_new' _ [0] _ (by simp) (by decide)).alloc _).alloc _).alloc _).alloc _).alloc _).alloc _).alloc _).alloc _).alloc _).alloc _, by simp⟩
        · exact ⟨(((((((((lits_new' _ [1, -1] _ (by simp) (by decide)).alloc _).alloc _).alloc _).alloc _).alloc _).alloc _).alloc _).alloc _).alloc _, by simp⟩
        · exact ⟨((((((((lits_new' _ [3, -1, 3, 2] _ (by simp) (by decide)).alloc _).alloc _).alloc _).alloc _).alloc _).alloc _).alloc _).alloc _, by simp⟩
        · exact ⟨(((((((lits_new' _ [1, 2] _ (by simp) (by decide)).alloc _).alloc _).alloc _).alloc _).alloc _).alloc _).alloc _, by simp⟩
        · exact ⟨((((((lits_new' _ [2, 1, 2] _ (by simp) (by decide)).alloc _).alloc _).alloc _).alloc _).alloc _).alloc _, by simp⟩
        · exact ⟨(((((lits_new' _ [-1, 3] _ (by simp) (by decide)).alloc _).alloc _).alloc _).alloc _).alloc _, by simp⟩
        · exact ⟨((((lits_new' _ [-1, -2] _ (by simp) (by decide)).alloc _).alloc _).alloc _).alloc _, by simp⟩
        · exact ⟨(((lits_new' _ [-2147483648, 2147483647] _ (by simp) (by decide)).alloc _).alloc _).alloc _, by simp⟩
        · exact ⟨((lits_new' _ [2147483647, -2147483647] _ (by simp) (by decide)).alloc _).alloc _, by simp⟩
        · exact ⟨(lits_new' _ [0, 0] _ (by simp) (by decide)).alloc _, by simp⟩
        · exact ⟨lits_new' _ [5, 4, 3, 2, 1, -5] _ (by simp) (by decide), by simp⟩
      · exact (((((((((((((below_new w _).alloc (by simp <;> omega) _).alloc (by simp <;> omega) _).alloc (by simp <;> omega) _).alloc (by simp <;> omega) _).alloc (by simp <;> omega) _).alloc (by simp <;> omega) _).alloc (by simp <;> omega) _).alloc (by simp <;> omega) _).alloc (by simp <;> omega) _).alloc (by simp <;> omega) _).alloc (by simp <;> omega) _).alloc (by simp <;> omega) _).alloc (by simp <;> omega) _
  case rest =>
    obtain ⟨g, rfl, hC, hB⟩ := hcut
    obtain ⟨W1, rfl⟩ : ∃ W, W = wc := ⟨_, rfl⟩
    have HC1 := hid hC
    have HB1 := hid hB
    clear hC hB
    go_upto_region 2 with fail
    go_cut [2] (fun s wc => ∃ g, s = .slice (some ⟨g, 0, none⟩) 6 6 ∧ Mods wc (some ⟨g, 0, none⟩) knownMs ∧ Below W1.heap.size W1 wc)
    case first =>
      go_wp2
      go_meet
      case rel =>
        refine ⟨_, rfl, mods_new _ _ (by simp) [(none, 0, []), (some ⟨W1.heap.size, 0, none⟩, 1, [true]), (some ⟨W1.heap.size + 1, 0, none⟩, 1, [false]), (some ⟨W1.heap.size + 1 + 1, 0, none⟩, 2, [true, true]), (some ⟨W1.heap.size + 1 + 1 + 1, 0, none⟩, 3, [false, true, true]), (some ⟨W1.heap.size + 1 + 1 + 1 + 1, 0, none⟩, 5, [true, false, true, false, true])] ?_, ?_⟩
        · intro r hr
          simp only [List.mem_cons, List.not_mem_nil, or_false] at hr
          rcases hr with rfl | rfl | rfl | rfl | rfl | rfl
          · exact .inl rfl
          · exact ((((bools_new' _ [true] _ (by simp)).alloc _).alloc _).alloc _).alloc _
          · exact (((bools_new' _ [false] _ (by simp)).alloc _).alloc _).alloc _
          · exact ((bools_new' _ [true, true] _ (by simp)).alloc _).alloc _
          · exact (bools_new' _ [false, true, true] _ (by simp)).alloc _
          · exact bools_new' _ [true, false, true, false, true] _ (by simp)
        · exact (((((below_new W1 _).alloc (by simp <;> omega) _).alloc (by simp <;> omega) _).alloc (by simp <;> omega) _).alloc (by simp <;> omega) _).alloc (by simp <;> omega) _
    case rest =>
      obtain ⟨gm, rfl, hM, hB⟩ := hcut
      obtain ⟨W2, rfl⟩ : ∃ W, W = wc := ⟨_, rfl⟩
      have HM := hid hM
      have HC := hid (HC1.out.below hB)
      have HB := hid (HB1.out.trans (hB.mono HB1.out.size))
      clear hM hB HB1 HC1
      go_wp2
      go_loopw [3] (fun s wr => ∃ i : Nat, i ≤ 14 ∧ s = .int .i64 i ∧ Below W2.heap.size W2 wr) (fun s _ => 14 - (intOf s).toNat)
      case atStart => exact ⟨0, Nat.zero_le _, rfl, Below.refl _ _⟩
      case round =>
        obtain ⟨i, hi, rfl, hb2⟩ := hrel
        have GB2 := hid hb2
        clear hb2
        by_cases hi14 : i < 14
        · have hi14' : (i : Int) < 14 := by omega
          go_wp2
          go_loopw [4] (fun s wr => ∃ k : Nat, k ≤ 14 ∧ s = .int .i64 k ∧ Below W2.heap.size W2 wr) (fun s _ => 14 - (intOf s).toNat)
          case atStart => exact ⟨0, Nat.zero_le _, rfl, GB2.out⟩
          case round =>
            obtain ⟨k, hk, rfl, hb3⟩ := hrel
            obtain ⟨W3, rfl⟩ : ∃ W, W = wr := ⟨_, rfl⟩
            have HB3 := hid hb3
            clear hb3
            by_cases hk14 : k < 14
            · have GB3 : Hid (Below W2.heap.size W2 (W3.alloc (.cells (([-1, 0, 1, 2, 5, 2147483647, 2147483648, 9223372036854775807, -9223372036854775808] : List Int).map (Value.int .i64)).toArray 3))) := HB3.out.alloc HB3.out.size _
              have GN3 := hid (nums_new W3 [-1, 0, 1, 2, 5, 2147483647, 2147483648, 9223372036854775807, -9223372036854775808] 3)
              go_wp2
              go_loopw [45] (fun s wr => ∃ j : Nat, j ≤ 9 ∧ s = .int .i64 j ∧ Below W2.heap.size W2 wr ∧ Nums wr W3.heap.size 9) (fun s _ => 9 - (intOf s).toNat)
              case atStart => exact ⟨0, Nat.zero_le _, rfl, GB3.out, GN3.out⟩
              case round =>
                obtain ⟨j, hj, rfl, hb4, hn4⟩ := hrel
                obtain ⟨W4, rfl⟩ : ∃ W, W = wr := ⟨_, rfl⟩
                have BB := hid hb4
                have NN := hid hn4
                clear hb4 hn4
                by_cases hjl : j < 9
                · obtain ⟨bi, oi, ai, capi, ei, _, hci, hLi, _⟩ := (HC.out.below BB.out).at (k := i) hi14
                  obtain ⟨bk, ok, ak, capk, ek, _, hck, hLk, _⟩ := (HC.out.below BB.out).at (k := k) hk14
                  simp only [Option.some.injEq, Addr.mk.injEq] at ei ek
                  obtain ⟨rfl, rfl, _⟩ := ei
                  obtain ⟨rfl, rfl, _⟩ := ek
                  obtain ⟨v, hv⟩ := NN.out.2 j hjl
                  have hq6 : (i + k) % 6 < 6 := Nat.mod_lt _ (by omega)
                  obtain ⟨bm, om, em, _, hcm⟩ := HM.out.below BB.out
                  obtain ⟨am, capm, hcm, hLm⟩ := hcm ((i + k) % 6) hq6
                  simp only [Option.some.injEq, Addr.mk.injEq] at em
                  obtain ⟨rfl, rfl, _⟩ := em
                  have c4 : Hid (∀ d os, Calls Try.prog 4 #[.slice ai (knownCs.getD i []).length capi, .slice ak (knownCs.getD k []).length capk, .int .i64 v] (grow (redrawn W4 d) os) fun e w'' => e = .returned (.bool true) ∧ ∃ p : Regrown, w'' = grow (redrawn W4 p.d) p.os) := fun d os => Calls.regrown_of (clauses4 _ _ _ _ _ _ _ _ v _ rfl rfl (hLi.below (below_regrown W4 d os)) (hLk.below (below_regrown W4 d os)))
                  have c7 : Hid (∀ d os, Calls Try.prog 7 #[.slice ai (knownCs.getD i []).length capi, .slice ak (knownCs.getD k []).length capk, .int .i64 v, .slice am (knownMs.getD ((i + k) % 6) []).length capm] (grow (redrawn W4 d) os) fun e w'' => e = .returned (.bool true) ∧ ∃ p : Regrown, w'' = grow (redrawn W4 p.d) p.os) := fun d os => Calls.regrown_of (resolves7 _ _ _ _ _ _ _ _ _ _ _ v _ _ rfl rfl rfl (hLi.below (below_regrown W4 d os)) (hLk.below (below_regrown W4 d os)) (hLm.below (below_regrown W4 d os)))
                  rw [Nat.zero_add] at hci hck hcm
                  generalize (knownCs.getD i []).length = li at *
                  generalize (knownCs.getD k []).length = lk at *
                  generalize (knownMs.getD ((i + k) % 6) []).length = lm at *
                  have g1 := cell_regrown hci
                  have g2 := cell_regrown hck
                  have g3 := cell_regrown hcm
                  have i1 : (i : Int) < 14 := by omega
                  have i2 : (k : Int) < 14 := by omega
                  have i3 : ((i : Int) + (k : Int)) % 6 < 6 := by omega
                  have i4 : 0 ≤ ((i : Int) + (k : Int)) % 6 := by omega
                  have i5 : (((i : Int) + (k : Int)) % 6).toNat = (i + k) % 6 := by omega
                  have hjl' : (j : Int) < 9 := by omega
                  clear hLi hLk hLm hci hck hcm
                  go_wp2_with fail
                  refine wp_region_quiet_below (by kernel_rfl) (by kernel_rfl) ?_
                  repeat (first | go_big_quiet_step ((first | exact c4.out _ _ | exact c7.out _ _)) | quiet_step ((first | exact c4.out _ _ | exact c7.out _ _)))
                  refine wpQuiet_nil ?_
                  intro _ hw'
                  obtain ⟨⟨dq, osq⟩, hw''⟩ := hw'
                  subst hw''
                  go_wp2
                  go_roundw
                  case rel => exact ⟨j + 1, by omega, by go_num, BB.out.trans ((below_regrown W4 dq osq).mono BB.out.size), NN.out.below (below_regrown W4 dq osq)⟩
                  case measure => simp [intOf]; omega
                · clear hj
                  go_wp2
                  go_roundw
                  case rel => exact ⟨k + 1, by omega, by go_num, BB.out⟩
                  case measure => simp [intOf]; omega
            · have GB2 := hid HB3.out
              clear HB3
              go_wp2
              clear hk hk14
              go_loopw [7] (fun s wr => ∃ k : Nat, k ≤ 6 ∧ s = .int .i64 k ∧ Below W2.heap.size W2 wr) (fun s _ => 6 - (intOf s).toNat)
              case atStart => exact ⟨0, Nat.zero_le _, rfl, GB2.out⟩
              case round =>
                obtain ⟨k, hk, rfl, hb4⟩ := hrel
                obtain ⟨W4, rfl⟩ : ∃ W, W = wr := ⟨_, rfl⟩
                have BB := hid hb4
                clear hb4 GB2
                by_cases hk6 : k < 6
                · obtain ⟨bi, oi, ai, capi, ei, _, hci, hLi, _⟩ := (HC.out.below BB.out).at (k := i) hi14
                  simp only [Option.some.injEq, Addr.mk.injEq] at ei
                  obtain ⟨rfl, rfl, _⟩ := ei
                  obtain ⟨bm, om, em, _, hcm⟩ := HM.out.below BB.out
                  obtain ⟨am, capm, hcm, hLm⟩ := hcm k hk6
                  simp only [Option.some.injEq, Addr.mk.injEq] at em
                  obtain ⟨rfl, rfl, _⟩ := em
                  have c5 : Hid (∀ d os, Calls Try.prog 5 #[.slice ai (knownCs.getD i []).length capi, .slice am (knownMs.getD k []).length capm] (grow (redrawn W4 d) os) fun e w'' => e = .returned (.bool true) ∧ ∃ p : Regrown, w'' = grow (redrawn W4 p.d) p.os) := fun d os => Calls.regrown_of (values5 _ _ _ _ _ _ _ _ _ rfl rfl (hLi.below (below_regrown W4 d os)) (hLm.below (below_regrown W4 d os)))
                  have c6 : Hid (∀ d os, Calls Try.prog 6 #[.slice ai (knownCs.getD i []).length capi, .slice am (knownMs.getD k []).length capm] (grow (redrawn W4 d) os) fun e w'' => e = .returned (.bool true) ∧ ∃ p : Regrown, w'' = grow (redrawn W4 p.d) p.os) := fun d os => Calls.regrown_of (normal6 _ _ _ _ _ _ _ _ _ rfl rfl (hLi.below (below_regrown W4 d os)) (hLm.below (below_regrown W4 d os)))
                  rw [Nat.zero_add] at hci hcm
                  generalize (knownCs.getD i []).length = li at hci c5 c6
                  generalize (knownMs.getD k []).length = lm at hcm c5 c6
                  have g1 := cell_regrown hci
                  have g3 := cell_regrown hcm
                  have i1 : (i : Int) < 14 := by omega
                  have i2 : (k : Int) < 6 := by omega
                  clear hLi hLm hci hcm
                  go_wp2_with fail
                  refine wp_region_quiet_below (by kernel_rfl) (by kernel_rfl) ?_
                  repeat (first | go_big_quiet_step ((first | exact c5.out _ _ | exact c6.out _ _)) | quiet_step ((first | exact c5.out _ _ | exact c6.out _ _)))
                  refine wpQuiet_nil ?_
                  intro _ hw'
                  obtain ⟨⟨dq, osq⟩, hw''⟩ := hw'
                  subst hw''
                  generalize hW5 : grow (redrawn W4 dq) osq = W5
                  have B5 := hid (BB.out.trans ((show Below W4.heap.size W4 W5 by rw [← hW5]; exact below_regrown W4 dq osq).mono BB.out.size))
                  clear hW5 g1 g3 c5 c6
                  have GB6 : Hid (Below W2.heap.size W2 (W5.alloc (.cells (([-1, 0, 1, 2, 3, 5, 1048576, 1048577] : List Int).map (Value.int .i64)).toArray 3))) := B5.out.alloc B5.out.size _
                  have GN6 := hid (nums_new W5 [-1, 0, 1, 2, 3, 5, 1048576, 1048577] 3)
                  go_wp2
                  go_loopw [109] (fun s wr => ∃ j : Nat, j ≤ 8 ∧ s = .int .i64 j ∧ Below W2.heap.size W2 wr ∧ Nums wr W5.heap.size 8) (fun s _ => 8 - (intOf s).toNat)
                  case atStart => exact ⟨0, Nat.zero_le _, rfl, GB6.out, GN6.out⟩
                  case round =>
                    obtain ⟨j, hj, rfl, hb7, hn7⟩ := hrel
                    obtain ⟨W7, rfl⟩ : ∃ W, W = wr := ⟨_, rfl⟩
                    have BB7 := hid hb7
                    have NN7 := hid hn7
                    clear hb7 hn7 GB6 GN6
                    by_cases hjl : j < 8
                    · obtain ⟨v, hv⟩ := NN7.out.2 j hjl
                      have hjl' : (j : Int) < 8 := by omega
                      obtain ⟨bi, oi, ai, capi, ei, _, hci, hLi, hbi⟩ := (HC.out.below BB7.out).at (k := i) hi14
                      simp only [Option.some.injEq, Addr.mk.injEq] at ei
                      obtain ⟨rfl, rfl, _⟩ := ei
                      obtain ⟨bm, om, em, hbm, hcm⟩ := HM.out.below BB7.out
                      obtain ⟨am, capm, hcm, hLm⟩ := hcm k hk6
                      simp only [Option.some.injEq, Addr.mk.injEq] at em
                      obtain ⟨rfl, rfl, _⟩ := em
                      rw [Nat.zero_add] at hci hcm
                      have C3a : Hid (∀ W, Below W7.heap.size W7 W → Calls Try.prog 3 #[.agg #[.int .i64 v, .slice (some ⟨g, 0, none⟩) i 14], .slice am (knownMs.getD k []).length capm] W fun e w' => e = .returned (.bool true) ∧ Below W7.heap.size W7 w' ∧ w'.cell? ⟨g, i, none⟩ = some (.slice ai (knownCs.getD i []).length capi) ∧ w'.cell? ⟨gm, k, none⟩ = some (.slice am (knownMs.getD k []).length capm) ∧ (∀ o, (w'.alloc o).cell? ⟨gm, k, none⟩ = some (.slice am (knownMs.getD k []).length capm)) ∧ ∀ o, (w'.alloc o).cell? ⟨g, i, none⟩ = some (.slice ai (knownCs.getD i []).length capi)) := by
                        intro W hW
                        have hT : (knownCs.take i).length = i := by rw [List.length_take]; have : knownCs.length = 14 := rfl; omega
                        refine (rights3 v (some ⟨g, 0, none⟩) am i 14 _ capm (knownCs.take i) _ W hT (by omega) rfl (((HC.out.below BB7.out).take i).below hW) (hLm.below hW)).mono ?_
                        rintro e w' ⟨he, hb⟩
                        have hB := hW.trans (hb.mono hW.size)
                        have x1 : w'.cell? ⟨g, i, none⟩ = some (.slice ai (knownCs.getD i []).length capi) := by rw [hB.cell (p := ⟨g, i, none⟩) (World.block_lt_of_cell? W7 _ hci)]; exact hci
                        have x2 : w'.cell? ⟨gm, k, none⟩ = some (.slice am (knownMs.getD k []).length capm) := by rw [hB.cell (p := ⟨gm, k, none⟩) (World.block_lt_of_cell? W7 _ hcm)]; exact hcm
                        exact ⟨he, hB, x1, x2, fun o => by rw [(below_new w' o).cell (p := ⟨gm, k, none⟩) (World.block_lt_of_cell? w' _ x2)]; exact x2, fun o => by rw [(below_new w' o).cell (p := ⟨g, i, none⟩) (World.block_lt_of_cell? w' _ x1)]; exact x1⟩
                      have C3b : Hid (∀ W, Below W7.heap.size W7 W → Calls Try.prog 3 #[.agg #[.int .i64 v, .slice (some ⟨W.heap.size, 0, none⟩) 1 1], .slice am (knownMs.getD k []).length capm] (W.alloc (.cells #[.slice ai (knownCs.getD i []).length capi] 33)) fun e w' => e = .returned (.bool true) ∧ Below W7.heap.size W7 w' ∧ w'.cell? ⟨g, i, none⟩ = some (.slice ai (knownCs.getD i []).length capi) ∧ w'.cell? ⟨gm, k, none⟩ = some (.slice am (knownMs.getD k []).length capm)) := by
                        intro W hW
                        have hcl := cls_new W _ rfl [(ai, capi, knownCs.getD i [])] (by intro r hr; simp only [List.mem_cons, List.not_mem_nil, or_false] at hr; subst hr; exact ⟨hLi.below hW, hbi⟩)
                        have hWa : Below W7.heap.size W7 (W.alloc (.cells #[.slice ai (knownCs.getD i []).length capi] 33)) := hW.alloc hW.size _
                        refine (rights3 v (some ⟨W.heap.size, 0, none⟩) am 1 1 _ capm [knownCs.getD i []] _ _ rfl (by omega) rfl hcl (hLm.below hWa)).mono ?_
                        rintro e w' ⟨he, hb⟩
                        have hB := hWa.trans (hb.mono hWa.size)
                        exact ⟨he, hB, by rw [hB.cell (p := ⟨g, i, none⟩) (World.block_lt_of_cell? W7 _ hci)]; exact hci, by rw [hB.cell (p := ⟨gm, k, none⟩) (World.block_lt_of_cell? W7 _ hcm)]; exact hcm⟩
                      have NB : Hid (∀ W, Below W7.heap.size W7 W → Below W2.heap.size W2 W ∧ Nums W W5.heap.size 8) := fun W hW => ⟨BB7.out.trans (hW.mono BB7.out.size), NN7.out.below hW⟩
                      generalize (knownCs.getD i []).length = li at hci C3a C3b
                      generalize (knownMs.getD k []).length = lm at hcm C3a C3b
                      have i1 : (i : Int) < 14 := by omega
                      have i1' : (i : Int) ≤ 14 := by omega
                      have i2 : (k : Int) < 6 := by omega
                      clear hLi hLm hbi hbm BB7 NN7
                      go_wp2
                      have kk : W7.drew.cell? ⟨g, i, none⟩ = some (.slice ai li capi) ∧ W7.drew.cell? ⟨gm, k, none⟩ = some (.slice am lm capm) ∧ Below W7.heap.size W7 W7.drew := ⟨hci, hcm, (Below.refl _ _).drew⟩
                      have KK := hid kk
                      clear kk
                      go_region_held3 (fun W => W.cell? ⟨g, i, none⟩ = some (.slice ai li capi) ∧ W.cell? ⟨gm, k, none⟩ = some (.slice am lm capm) ∧ Below W7.heap.size W7 W)
                        (first | exact KK.out | exact ⟨x1, x2, hb8⟩ | exact ⟨y1, y2, hb9⟩ | exact ⟨x4 _, x3 _, hb8.alloc hb8.size _⟩)
                        (first
                          | (go_at_call_of 3 (Value.slice (some (Addr.mk g 0 none)) i 14); refine (C3a.out _ ?_).mono ?_; exact (Below.refl _ _).drew; rintro e w8 ⟨rfl, hb8, x1, x2, x3, x4⟩)
                          | (go_at_call 3; refine (C3b.out _ ?_).mono ?_; exact hb8; rintro e w9 ⟨rfl, hb9, y1, y2⟩))
                      have FF := hid (NB.out _ hb9)
                      clear hb8 hb9 x1 x2 x3 x4 y1 y2
                      go_wp2
                      go_roundw
                      case rel => exact ⟨j + 1, by omega, by go_num, FF.out.1, FF.out.2⟩
                      case measure => simp [intOf]; omega
                    · clear hj
                      go_wp2
                      go_roundw
                      case rel => exact ⟨k + 1, by omega, by go_num, BB7.out⟩
                      case measure => simp [intOf]; omega
                · clear hk
                  go_wp2
                  go_roundw
                  case rel => exact ⟨i + 1, by omega, by go_num, BB.out⟩
                  case measure => simp [intOf]; omega
        · clear hi
          obtain ⟨n, hn⟩ : ∃ n : Nat, n = 1048577 := ⟨_, rfl⟩
          have HNn := hid hn
          have n1 : (1 : Int) ≤ (n : Int) := by omega
          have n2 : ¬ n = 1 := by omega
          clear hn
          obtain ⟨i1, hj, hy0, hy1, hy2⟩ := info_parts info33
          obtain ⟨W8, rfl⟩ : ∃ W, W = wr := ⟨_, rfl⟩
          go_wp2_with (first | (at_make; refine wpList_make_full _ rfl _ _ 22 rfl W8.heap.size 33 i1 (.slice none 0 0) 1 Try.underlying22 hj hy0 hy1 _ _ _ _ n rfl rfl (by have := HNn.out; omega) (by have := HNn.out; omega) ?b2 ?b3 (Nat.le_refl _) ?_))
          case b2 => rw [hy2]; have := HNn.out; omega
          case b3 => unfold maxLen; have := HNn.out; omega
          intro W9 hown9 hgrow9
          have hcl9 := made_nil hown9
          have hb9 : Below W8.heap.size W8 W9 := (Below.refl _ _).grown hgrow9 (Nat.le_refl _) (fun q hq => by cases hq)
          have B9 := hid (GB2.out.trans (hb9.mono GB2.out.size))
          have hg9 : W8.heap.size < W9.heap.size := World.block_lt_of_cell? W9 _ (hcl9 0 (by have := HNn.out; omega))
          have R1 := hid (right10_limit 0 (some ⟨W8.heap.size, 0, none⟩) n n W9 (by omega) (by omega) (by have := HNn.out; omega))
          have R2 : Hid (∀ W, Below W9.heap.size W9 W → Calls Try.prog 10 #[.agg #[.int .i64 0, .slice (some ⟨W8.heap.size, 1, none⟩) (n - 1) (n - 1)]] W fun e w' => e = .returned (.int .i64 0) ∧ Below W9.heap.size W9 w') := by
            intro W hW
            have hC : Cls W (some ⟨W8.heap.size, 1, none⟩) (List.replicate (n - 1) []) := cls_nil (n := n) hg9 hcl9 hW
            refine (right10_scan 0 (some ⟨W8.heap.size, 1, none⟩) (n - 1) (n - 1) (List.replicate (n - 1) []) W (by omega) (by omega) (by have := HNn.out; omega) (by simp) hC).mono ?_
            rintro e w' ⟨he, hb⟩
            refine ⟨?_, hW.trans (hb.mono hW.size)⟩
            rw [he, flat_nil]
            rfl
          clear hown9 hgrow9 hcl9 hb9 hg9 GB2
          go_wp2_with fail
          refine R1.out.mono ?_
          rintro e x1 ⟨rfl, g1⟩
          have G1 := hid g1
          clear g1
          go_wp2_with fail
          refine (R2.out _ G1.out).mono ?_
          rintro e x2 ⟨rfl, g2⟩
          have G2 := hid g2
          clear g2
          go_wp2_with fail
          refine (works14 _).mono ?_
          rintro e x3 ⟨rfl, g3⟩
          have T2 := hid (HB.out.trans (B9.out.mono HB.out.size))
          have T3 := hid (T2.out.trans (G2.out.mono T2.out.size))
          have G3 := hid (T3.out.trans (g3.mono T3.out.size))
          clear g3
          go_wp2
          go_ret
          exact ⟨rfl, G3.out⟩

end Go.Proofs.Ytccbcijkahnkkaa
