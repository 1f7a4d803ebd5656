/- Turn. -/
import Derived.Test.YtkodfojccodoaaaTrn
namespace Go.Proofs.Ytkodfojccodoaaa
open Go.RowKit Go.Maps
set_option linter.unusedVariables false
set_option linter.unusedSimpArgs false
set_option maxRecDepth 100000
def sched : Array Value := #[.func (.func 45) #[] #[], .func (.func 46) #[] #[], .func (.func 47) #[] #[], .func (.func 48) #[] #[], .func (.func 45) #[] #[], .func (.func 47) #[] #[], .func (.func 49) #[] #[], .func (.func 46) #[] #[]]
theorem schedule33 (W : World) : Calls Try.prog 33 #[] W fun e w' => e = .returned (.agg sched) ∧ Below W.heap.size W w' := by
  go_enter Try.func33, Try.ntmps33
  go_wp2
  refine bodyPost_ret (results_cell_row rfl _ _ W.heap.size 74 _ (0, 0) _ rfl (heap_alloc_new _ _) Try.underlying74 rfl (by kernel_rfl)) rfl ?_
  exact ⟨rfl, below_box _ _⟩
theorem nx_lt (t : Nat) : nx t < 8 := by unfold nx; split <;> omega
theorem nx_next (t : Nat) : nx (t + 1) = if nx t = 7 then 2 else nx t + 1 := by
  unfold nx
  by_cases h : t < 8
  · rw [if_pos h]
    by_cases h7 : t = 7
    · subst h7; rfl
    · rw [if_pos (by omega), if_neg h7]
  · rw [if_neg h, if_neg (by omega)]
    by_cases h7 : (t - 2) % 6 = 5
    · rw [if_pos (by omega)]; omega
    · rw [if_neg (by omega)]; omega
theorem knd_nx (t : Nat) : Ph.knd t = [0, 1, 2, 3, 0, 2, 4, 1].getD (nx t) 0 := by
  unfold nx Ph.knd
  by_cases h : t < 8
  · rw [if_pos h]
    have : t = 0 ∨ t = 1 ∨ t = 2 ∨ t = 3 ∨ t = 4 ∨ t = 5 ∨ t = 6 ∨ t = 7 := by omega
    rcases this with rfl | rfl | rfl | rfl | rfl | rfl | rfl | rfl <;> rfl
  · rw [if_neg h, if_neg (by omega)]
    have : (t - 2) % 6 < 6 := Nat.mod_lt _ (by omega)
    generalize (t - 2) % 6 = q at *
    have : q = 0 ∨ q = 1 ∨ q = 2 ∨ q = 3 ∨ q = 4 ∨ q = 5 := by omega
    rcases this with rfl | rfl | rfl | rfl | rfl | rfl <;> rfl
/-- What a turn of the kind c leaves. -/
def TrnO (A : Adr) (P : Ph.St) (c : Nat) (nt : Int) (mt : List Int) (nb : Int) (mb : List Int) (k : Nat) (W : World) (e : Ending) (w' : World) : Prop :=
  e = .returned (.int .u8 (c : Int)) ∧ Pr A P.st (Ph.tsv A.n c P).2 P.T.length nt mt (if c = 2 then 0 else P.B.length) nb mb (Ph.tsv A.n c P).1 k w' ∧ Fa A W w'
section
variable {A : Adr} {P : Ph.St} {K : Int} {W : World} {nt : Int} {mt : List Int} {nb : Int} {mb : List Int} {k : Nat}
theorem t45 (H : Pr A P.st P.sv P.T.length nt mt P.B.length nb mb P.s k W) : Calls Try.prog 45 #[.pointer (some ⟨A.pb, 0, none⟩)] W fun e w' => TrnO A P 0 nt mt nb mb k W e w' := orig45 H
theorem t46 (H : Pr A P.st P.sv P.T.length nt mt P.B.length nb mb P.s k W) : Calls Try.prog 46 #[.pointer (some ⟨A.pb, 0, none⟩)] W fun e w' => TrnO A P 1 nt mt nb mb k W e w' := inv46 H
theorem t47 (H : Pr A P.st P.sv P.T.length nt mt P.B.length nb mb P.s k W) (hB : Ph.Mk A.n P.B nb mb) (hn : nb ≤ 4611686018427387904) : Calls Try.prog 47 #[.pointer (some ⟨A.pb, 0, none⟩)] W fun e w' => TrnO A P 2 nt mt nb mb k W e w' := best47 H hB hn
theorem t48 (H : Pr A P.st P.sv P.T.length nt mt P.B.length nb mb P.s k W) (hs : Us P.s) : Calls Try.prog 48 #[.pointer (some ⟨A.pb, 0, none⟩)] W fun e w' => TrnO A P 3 nt mt nb mb k W e w' := walk48 H hs
theorem t49 (H : Pr A P.st P.sv P.T.length nt mt P.B.length nb mb P.s k W) (hs : Us P.s) : Calls Try.prog 49 #[.pointer (some ⟨A.pb, 0, none⟩)] W fun e w' => TrnO A P 4 nt mt nb mb k W e w' := rand49 H hs
def TurnO (A : Adr) (P : Ph.St) (K : Int) (W : World) (e : Ending) (w' : World) : Prop :=
  e = .returned (.tuple #[.int .u8 ((Ph.knd P.k : Nat) : Int), .int .i64 0]) ∧ Px A (Ph.turn A.n P) K w' ∧ Below W.heap.size W W ∧ Fa A W w'
theorem tsv_us {n c : Nat} (h : Us P.s) : Us (Ph.tsv n c P).1 := by
  unfold Ph.tsv
  split
  · exact h
  · split
    · exact h
    · split
      · exact h
      · split
        · exact Ph.wlk_us h n
        · exact Ph.rnd_us h n
set_option maxHeartbeats 4000000 in
theorem turn17_0 (H : Px A P K W) (hi : nx P.k = 0) :
    Calls Try.prog 17 #[.pointer (some ⟨A.pb, 0, none⟩)] W fun e w' => TurnO A P K W e w' := by
  obtain ⟨nt, mt, nb, mb, q, hT, hB, k1, k2, k3, k4⟩ := H
  have hkd : Ph.knd P.k = 0 := by rw [knd_nx, hi]; rfl
  have hnx : nx (P.k + 1) = 1 := by rw [nx_next, hi]; rfl
  rw [hi] at q
  have C33 := hid (schedule33 W)
  have HM := hid (fun (w : World) (hb : Below W.heap.size W w) => show Calls Try.prog 45 #[.pointer (some ⟨A.pb, 0, none⟩)] w fun e w' => TrnO A P 0 nt mt nb mb 0 w e w' from t45 (q.below hb))
  have HL := hid (fun (w : World) (hq : Pr A P.st (Ph.tsv A.n 0 P).2 P.T.length nt mt (if 0 = 2 then 0 else P.B.length) nb mb (Ph.tsv A.n 0 P).1 0 w) => leave34T hq)
  have HC := hid (fun (w : World) (hb : Below W.heap.size W w) => (q.below hb).cells.2.2.2.2.2.2.2.2.2)
  have HF := hid (fun (w : World) (hq : Pr A P.st (Ph.tsv A.n 0 P).2 0 nt mt (if 0 = 2 then 0 else P.B.length) nb mb (Ph.tsv A.n 0 P).1 1 w) (hf : Fa A W w) => show TurnO A P K W (.returned (.tuple #[.int .u8 0, .int .i64 0])) w from by
    refine ⟨by rw [hkd]; rfl, ⟨nt, mt, nb, mb, ?_, hT.left, ?_, k1, k2, k3, ?_⟩, Below.refl _ _, hf⟩
    · show Pr A P.st (Ph.tsv A.n (Ph.knd P.k) P).2 0 nt mt (if Ph.knd P.k = 2 then [] else P.B).length nb mb (Ph.tsv A.n (Ph.knd P.k) P).1 (nx (P.k + 1)) w
      rw [hkd, hnx]
      exact hq
    · show Ph.Mk A.n (if Ph.knd P.k = 2 then [] else P.B) nb mb
      rw [hkd]
      exact hB
    · exact tsv_us k4)
  clear q hT hB k1 k2 k3 k4 hi hkd hnx
  go_enter Try.func17, Try.ntmps17
  go_wp2_with (fail)
  go_at_call 33
  refine C33.out.mono ?_
  rintro e w1 ⟨rfl, b1⟩
  unfold sched
  have bx := b1.trans ((below_box w1 (.cells sched 74)).mono b1.size)
  have HB := hid (Fq.of_below (Q := fun g => ¬ A.own g) bx)
  have CM := hid (HM.out _ bx)
  have d9 := HC.out _ bx
  have y1 : (w1.alloc (.cells sched 74)).cell? ⟨w1.heap.size, 0, none⟩ = some (.func (.func 45) #[] #[]) := row_cell (heap_alloc_new w1 _) 0
  unfold sched at CM d9 y1 HB
  clear HM HC C33 b1 bx
  go_wp2_with (fail)
  go_at_call 45
  refine CM.out.mono ?_
  rintro e w2 ⟨rfl, q2, f2⟩
  have C34 := hid (HL.out _ q2)
  have f1 := HB.out.trans f2
  clear HL CM q2 f2 d9 y1
  go_wp2_with (fail)
  go_at_call 34
  refine C34.out.mono ?_
  rintro e w3 ⟨rfl, G1, F1⟩
  obtain ⟨G2, F2⟩ := G1.setK 1
  have c2 := G1.cells.2.2.2.2.2.2.2.2.2
  have f2 := G1.froz 9
  have c3 := G2.cells.2.2.2.2.2.2.2.2.2
  have HO := hid (HF.out _ G2 (f1.trans (F1.trans F2)))
  clear G1 G2 F1 F2 C34 HF HB
  go_wp2
  go_ret2
  exact HO.out
set_option maxHeartbeats 4000000 in
theorem turn17_1 (H : Px A P K W) (hi : nx P.k = 1) :
    Calls Try.prog 17 #[.pointer (some ⟨A.pb, 0, none⟩)] W fun e w' => TurnO A P K W e w' := by
  obtain ⟨nt, mt, nb, mb, q, hT, hB, k1, k2, k3, k4⟩ := H
  have hkd : Ph.knd P.k = 1 := by rw [knd_nx, hi]; rfl
  have hnx : nx (P.k + 1) = 2 := by rw [nx_next, hi]; rfl
  rw [hi] at q
  have C33 := hid (schedule33 W)
  have HM := hid (fun (w : World) (hb : Below W.heap.size W w) => show Calls Try.prog 46 #[.pointer (some ⟨A.pb, 0, none⟩)] w fun e w' => TrnO A P 1 nt mt nb mb 1 w e w' from t46 (q.below hb))
  have HL := hid (fun (w : World) (hq : Pr A P.st (Ph.tsv A.n 1 P).2 P.T.length nt mt (if 1 = 2 then 0 else P.B.length) nb mb (Ph.tsv A.n 1 P).1 1 w) => leave34T hq)
  have HC := hid (fun (w : World) (hb : Below W.heap.size W w) => (q.below hb).cells.2.2.2.2.2.2.2.2.2)
  have HF := hid (fun (w : World) (hq : Pr A P.st (Ph.tsv A.n 1 P).2 0 nt mt (if 1 = 2 then 0 else P.B.length) nb mb (Ph.tsv A.n 1 P).1 2 w) (hf : Fa A W w) => show TurnO A P K W (.returned (.tuple #[.int .u8 1, .int .i64 0])) w from by
    refine ⟨by rw [hkd]; rfl, ⟨nt, mt, nb, mb, ?_, hT.left, ?_, k1, k2, k3, ?_⟩, Below.refl _ _, hf⟩
    · show Pr A P.st (Ph.tsv A.n (Ph.knd P.k) P).2 0 nt mt (if Ph.knd P.k = 2 then [] else P.B).length nb mb (Ph.tsv A.n (Ph.knd P.k) P).1 (nx (P.k + 1)) w
      rw [hkd, hnx]
      exact hq
    · show Ph.Mk A.n (if Ph.knd P.k = 2 then [] else P.B) nb mb
      rw [hkd]
      exact hB
    · exact tsv_us k4)
  clear q hT hB k1 k2 k3 k4 hi hkd hnx
  go_enter Try.func17, Try.ntmps17
  go_wp2_with (fail)
  go_at_call 33
  refine C33.out.mono ?_
  rintro e w1 ⟨rfl, b1⟩
  unfold sched
  have bx := b1.trans ((below_box w1 (.cells sched 74)).mono b1.size)
  have HB := hid (Fq.of_below (Q := fun g => ¬ A.own g) bx)
  have CM := hid (HM.out _ bx)
  have d9 := HC.out _ bx
  have y1 : (w1.alloc (.cells sched 74)).cell? ⟨w1.heap.size, 1, none⟩ = some (.func (.func 46) #[] #[]) := row_cell (heap_alloc_new w1 _) 1
  unfold sched at CM d9 y1 HB
  clear HM HC C33 b1 bx
  go_wp2_with (fail)
  go_at_call 46
  refine CM.out.mono ?_
  rintro e w2 ⟨rfl, q2, f2⟩
  have C34 := hid (HL.out _ q2)
  have f1 := HB.out.trans f2
  clear HL CM q2 f2 d9 y1
  go_wp2_with (fail)
  go_at_call 34
  refine C34.out.mono ?_
  rintro e w3 ⟨rfl, G1, F1⟩
  obtain ⟨G2, F2⟩ := G1.setK 2
  have c2 := G1.cells.2.2.2.2.2.2.2.2.2
  have f2 := G1.froz 9
  have c3 := G2.cells.2.2.2.2.2.2.2.2.2
  have HO := hid (HF.out _ G2 (f1.trans (F1.trans F2)))
  clear G1 G2 F1 F2 C34 HF HB
  go_wp2
  go_ret2
  exact HO.out
set_option maxHeartbeats 4000000 in
theorem turn17_2 (H : Px A P K W) (hi : nx P.k = 2) :
    Calls Try.prog 17 #[.pointer (some ⟨A.pb, 0, none⟩)] W fun e w' => TurnO A P K W e w' := by
  obtain ⟨nt, mt, nb, mb, q, hT, hB, k1, k2, k3, k4⟩ := H
  have hkd : Ph.knd P.k = 2 := by rw [knd_nx, hi]; rfl
  have hnx : nx (P.k + 1) = 3 := by rw [nx_next, hi]; rfl
  rw [hi] at q
  have C33 := hid (schedule33 W)
  have HM := hid (fun (w : World) (hb : Below W.heap.size W w) => show Calls Try.prog 47 #[.pointer (some ⟨A.pb, 0, none⟩)] w fun e w' => TrnO A P 2 nt mt nb mb 2 w e w' from t47 (q.below hb) hB (by omega))
  have HL := hid (fun (w : World) (hq : Pr A P.st (Ph.tsv A.n 2 P).2 P.T.length nt mt (if 2 = 2 then 0 else P.B.length) nb mb (Ph.tsv A.n 2 P).1 2 w) => leave34T hq)
  have HC := hid (fun (w : World) (hb : Below W.heap.size W w) => (q.below hb).cells.2.2.2.2.2.2.2.2.2)
  have HF := hid (fun (w : World) (hq : Pr A P.st (Ph.tsv A.n 2 P).2 0 nt mt (if 2 = 2 then 0 else P.B.length) nb mb (Ph.tsv A.n 2 P).1 3 w) (hf : Fa A W w) => show TurnO A P K W (.returned (.tuple #[.int .u8 2, .int .i64 0])) w from by
    refine ⟨by rw [hkd]; rfl, ⟨nt, mt, nb, mb, ?_, hT.left, ?_, k1, k2, k3, ?_⟩, Below.refl _ _, hf⟩
    · show Pr A P.st (Ph.tsv A.n (Ph.knd P.k) P).2 0 nt mt (if Ph.knd P.k = 2 then [] else P.B).length nb mb (Ph.tsv A.n (Ph.knd P.k) P).1 (nx (P.k + 1)) w
      rw [hkd, hnx]
      exact hq
    · show Ph.Mk A.n (if Ph.knd P.k = 2 then [] else P.B) nb mb
      rw [hkd]
      exact hB.left
    · exact tsv_us k4)
  clear q hT hB k1 k2 k3 k4 hi hkd hnx
  go_enter Try.func17, Try.ntmps17
  go_wp2_with (fail)
  go_at_call 33
  refine C33.out.mono ?_
  rintro e w1 ⟨rfl, b1⟩
  unfold sched
  have bx := b1.trans ((below_box w1 (.cells sched 74)).mono b1.size)
  have HB := hid (Fq.of_below (Q := fun g => ¬ A.own g) bx)
  have CM := hid (HM.out _ bx)
  have d9 := HC.out _ bx
  have y1 : (w1.alloc (.cells sched 74)).cell? ⟨w1.heap.size, 2, none⟩ = some (.func (.func 47) #[] #[]) := row_cell (heap_alloc_new w1 _) 2
  unfold sched at CM d9 y1 HB
  clear HM HC C33 b1 bx
  go_wp2_with (fail)
  go_at_call 47
  refine CM.out.mono ?_
  rintro e w2 ⟨rfl, q2, f2⟩
  have C34 := hid (HL.out _ q2)
  have f1 := HB.out.trans f2
  clear HL CM q2 f2 d9 y1
  go_wp2_with (fail)
  go_at_call 34
  refine C34.out.mono ?_
  rintro e w3 ⟨rfl, G1, F1⟩
  obtain ⟨G2, F2⟩ := G1.setK 3
  have c2 := G1.cells.2.2.2.2.2.2.2.2.2
  have f2 := G1.froz 9
  have c3 := G2.cells.2.2.2.2.2.2.2.2.2
  have HO := hid (HF.out _ G2 (f1.trans (F1.trans F2)))
  clear G1 G2 F1 F2 C34 HF HB
  go_wp2
  go_ret2
  exact HO.out
set_option maxHeartbeats 4000000 in
theorem turn17_3 (H : Px A P K W) (hi : nx P.k = 3) :
    Calls Try.prog 17 #[.pointer (some ⟨A.pb, 0, none⟩)] W fun e w' => TurnO A P K W e w' := by
  obtain ⟨nt, mt, nb, mb, q, hT, hB, k1, k2, k3, k4⟩ := H
  have hkd : Ph.knd P.k = 3 := by rw [knd_nx, hi]; rfl
  have hnx : nx (P.k + 1) = 4 := by rw [nx_next, hi]; rfl
  rw [hi] at q
  have C33 := hid (schedule33 W)
  have HM := hid (fun (w : World) (hb : Below W.heap.size W w) => show Calls Try.prog 48 #[.pointer (some ⟨A.pb, 0, none⟩)] w fun e w' => TrnO A P 3 nt mt nb mb 3 w e w' from t48 (q.below hb) k4)
  have HL := hid (fun (w : World) (hq : Pr A P.st (Ph.tsv A.n 3 P).2 P.T.length nt mt (if 3 = 2 then 0 else P.B.length) nb mb (Ph.tsv A.n 3 P).1 3 w) => leave34T hq)
  have HC := hid (fun (w : World) (hb : Below W.heap.size W w) => (q.below hb).cells.2.2.2.2.2.2.2.2.2)
  have HF := hid (fun (w : World) (hq : Pr A P.st (Ph.tsv A.n 3 P).2 0 nt mt (if 3 = 2 then 0 else P.B.length) nb mb (Ph.tsv A.n 3 P).1 4 w) (hf : Fa A W w) => show TurnO A P K W (.returned (.tuple #[.int .u8 3, .int .i64 0])) w from by
    refine ⟨by rw [hkd]; rfl, ⟨nt, mt, nb, mb, ?_, hT.left, ?_, k1, k2, k3, ?_⟩, Below.refl _ _, hf⟩
    · show Pr A P.st (Ph.tsv A.n (Ph.knd P.k) P).2 0 nt mt (if Ph.knd P.k = 2 then [] else P.B).length nb mb (Ph.tsv A.n (Ph.knd P.k) P).1 (nx (P.k + 1)) w
      rw [hkd, hnx]
      exact hq
    · show Ph.Mk A.n (if Ph.knd P.k = 2 then [] else P.B) nb mb
      rw [hkd]
      exact hB
    · exact tsv_us k4)
  clear q hT hB k1 k2 k3 k4 hi hkd hnx
  go_enter Try.func17, Try.ntmps17
  go_wp2_with (fail)
  go_at_call 33
  refine C33.out.mono ?_
  rintro e w1 ⟨rfl, b1⟩
  unfold sched
  have bx := b1.trans ((below_box w1 (.cells sched 74)).mono b1.size)
  have HB := hid (Fq.of_below (Q := fun g => ¬ A.own g) bx)
  have CM := hid (HM.out _ bx)
  have d9 := HC.out _ bx
  have y1 : (w1.alloc (.cells sched 74)).cell? ⟨w1.heap.size, 3, none⟩ = some (.func (.func 48) #[] #[]) := row_cell (heap_alloc_new w1 _) 3
  unfold sched at CM d9 y1 HB
  clear HM HC C33 b1 bx
  go_wp2_with (fail)
  go_at_call 48
  refine CM.out.mono ?_
  rintro e w2 ⟨rfl, q2, f2⟩
  have C34 := hid (HL.out _ q2)
  have f1 := HB.out.trans f2
  clear HL CM q2 f2 d9 y1
  go_wp2_with (fail)
  go_at_call 34
  refine C34.out.mono ?_
  rintro e w3 ⟨rfl, G1, F1⟩
  obtain ⟨G2, F2⟩ := G1.setK 4
  have c2 := G1.cells.2.2.2.2.2.2.2.2.2
  have f2 := G1.froz 9
  have c3 := G2.cells.2.2.2.2.2.2.2.2.2
  have HO := hid (HF.out _ G2 (f1.trans (F1.trans F2)))
  clear G1 G2 F1 F2 C34 HF HB
  go_wp2
  go_ret2
  exact HO.out
set_option maxHeartbeats 4000000 in
theorem turn17_4 (H : Px A P K W) (hi : nx P.k = 4) :
    Calls Try.prog 17 #[.pointer (some ⟨A.pb, 0, none⟩)] W fun e w' => TurnO A P K W e w' := by
  obtain ⟨nt, mt, nb, mb, q, hT, hB, k1, k2, k3, k4⟩ := H
  have hkd : Ph.knd P.k = 0 := by rw [knd_nx, hi]; rfl
  have hnx : nx (P.k + 1) = 5 := by rw [nx_next, hi]; rfl
  rw [hi] at q
  have C33 := hid (schedule33 W)
  have HM := hid (fun (w : World) (hb : Below W.heap.size W w) => show Calls Try.prog 45 #[.pointer (some ⟨A.pb, 0, none⟩)] w fun e w' => TrnO A P 0 nt mt nb mb 4 w e w' from t45 (q.below hb))
  have HL := hid (fun (w : World) (hq : Pr A P.st (Ph.tsv A.n 0 P).2 P.T.length nt mt (if 0 = 2 then 0 else P.B.length) nb mb (Ph.tsv A.n 0 P).1 4 w) => leave34T hq)
  have HC := hid (fun (w : World) (hb : Below W.heap.size W w) => (q.below hb).cells.2.2.2.2.2.2.2.2.2)
  have HF := hid (fun (w : World) (hq : Pr A P.st (Ph.tsv A.n 0 P).2 0 nt mt (if 0 = 2 then 0 else P.B.length) nb mb (Ph.tsv A.n 0 P).1 5 w) (hf : Fa A W w) => show TurnO A P K W (.returned (.tuple #[.int .u8 0, .int .i64 0])) w from by
    refine ⟨by rw [hkd]; rfl, ⟨nt, mt, nb, mb, ?_, hT.left, ?_, k1, k2, k3, ?_⟩, Below.refl _ _, hf⟩
    · show Pr A P.st (Ph.tsv A.n (Ph.knd P.k) P).2 0 nt mt (if Ph.knd P.k = 2 then [] else P.B).length nb mb (Ph.tsv A.n (Ph.knd P.k) P).1 (nx (P.k + 1)) w
      rw [hkd, hnx]
      exact hq
    · show Ph.Mk A.n (if Ph.knd P.k = 2 then [] else P.B) nb mb
      rw [hkd]
      exact hB
    · exact tsv_us k4)
  clear q hT hB k1 k2 k3 k4 hi hkd hnx
  go_enter Try.func17, Try.ntmps17
  go_wp2_with (fail)
  go_at_call 33
  refine C33.out.mono ?_
  rintro e w1 ⟨rfl, b1⟩
  unfold sched
  have bx := b1.trans ((below_box w1 (.cells sched 74)).mono b1.size)
  have HB := hid (Fq.of_below (Q := fun g => ¬ A.own g) bx)
  have CM := hid (HM.out _ bx)
  have d9 := HC.out _ bx
  have y1 : (w1.alloc (.cells sched 74)).cell? ⟨w1.heap.size, 4, none⟩ = some (.func (.func 45) #[] #[]) := row_cell (heap_alloc_new w1 _) 4
  unfold sched at CM d9 y1 HB
  clear HM HC C33 b1 bx
  go_wp2_with (fail)
  go_at_call 45
  refine CM.out.mono ?_
  rintro e w2 ⟨rfl, q2, f2⟩
  have C34 := hid (HL.out _ q2)
  have f1 := HB.out.trans f2
  clear HL CM q2 f2 d9 y1
  go_wp2_with (fail)
  go_at_call 34
  refine C34.out.mono ?_
  rintro e w3 ⟨rfl, G1, F1⟩
  obtain ⟨G2, F2⟩ := G1.setK 5
  have c2 := G1.cells.2.2.2.2.2.2.2.2.2
  have f2 := G1.froz 9
  have c3 := G2.cells.2.2.2.2.2.2.2.2.2
  have HO := hid (HF.out _ G2 (f1.trans (F1.trans F2)))
  clear G1 G2 F1 F2 C34 HF HB
  go_wp2
  go_ret2
  exact HO.out
set_option maxHeartbeats 4000000 in
theorem turn17_5 (H : Px A P K W) (hi : nx P.k = 5) :
    Calls Try.prog 17 #[.pointer (some ⟨A.pb, 0, none⟩)] W fun e w' => TurnO A P K W e w' := by
  obtain ⟨nt, mt, nb, mb, q, hT, hB, k1, k2, k3, k4⟩ := H
  have hkd : Ph.knd P.k = 2 := by rw [knd_nx, hi]; rfl
  have hnx : nx (P.k + 1) = 6 := by rw [nx_next, hi]; rfl
  rw [hi] at q
  have C33 := hid (schedule33 W)
  have HM := hid (fun (w : World) (hb : Below W.heap.size W w) => show Calls Try.prog 47 #[.pointer (some ⟨A.pb, 0, none⟩)] w fun e w' => TrnO A P 2 nt mt nb mb 5 w e w' from t47 (q.below hb) hB (by omega))
  have HL := hid (fun (w : World) (hq : Pr A P.st (Ph.tsv A.n 2 P).2 P.T.length nt mt (if 2 = 2 then 0 else P.B.length) nb mb (Ph.tsv A.n 2 P).1 5 w) => leave34T hq)
  have HC := hid (fun (w : World) (hb : Below W.heap.size W w) => (q.below hb).cells.2.2.2.2.2.2.2.2.2)
  have HF := hid (fun (w : World) (hq : Pr A P.st (Ph.tsv A.n 2 P).2 0 nt mt (if 2 = 2 then 0 else P.B.length) nb mb (Ph.tsv A.n 2 P).1 6 w) (hf : Fa A W w) => show TurnO A P K W (.returned (.tuple #[.int .u8 2, .int .i64 0])) w from by
    refine ⟨by rw [hkd]; rfl, ⟨nt, mt, nb, mb, ?_, hT.left, ?_, k1, k2, k3, ?_⟩, Below.refl _ _, hf⟩
    · show Pr A P.st (Ph.tsv A.n (Ph.knd P.k) P).2 0 nt mt (if Ph.knd P.k = 2 then [] else P.B).length nb mb (Ph.tsv A.n (Ph.knd P.k) P).1 (nx (P.k + 1)) w
      rw [hkd, hnx]
      exact hq
    · show Ph.Mk A.n (if Ph.knd P.k = 2 then [] else P.B) nb mb
      rw [hkd]
      exact hB.left
    · exact tsv_us k4)
  clear q hT hB k1 k2 k3 k4 hi hkd hnx
  go_enter Try.func17, Try.ntmps17
  go_wp2_with (fail)
  go_at_call 33
  refine C33.out.mono ?_
  rintro e w1 ⟨rfl, b1⟩
  unfold sched
  have bx := b1.trans ((below_box w1 (.cells sched 74)).mono b1.size)
  have HB := hid (Fq.of_below (Q := fun g => ¬ A.own g) bx)
  have CM := hid (HM.out _ bx)
  have d9 := HC.out _ bx
  have y1 : (w1.alloc (.cells sched 74)).cell? ⟨w1.heap.size, 5, none⟩ = some (.func (.func 47) #[] #[]) := row_cell (heap_alloc_new w1 _) 5
  unfold sched at CM d9 y1 HB
  clear HM HC C33 b1 bx
  go_wp2_with (fail)
  go_at_call 47
  refine CM.out.mono ?_
  rintro e w2 ⟨rfl, q2, f2⟩
  have C34 := hid (HL.out _ q2)
  have f1 := HB.out.trans f2
  clear HL CM q2 f2 d9 y1
  go_wp2_with (fail)
  go_at_call 34
  refine C34.out.mono ?_
  rintro e w3 ⟨rfl, G1, F1⟩
  obtain ⟨G2, F2⟩ := G1.setK 6
  have c2 := G1.cells.2.2.2.2.2.2.2.2.2
  have f2 := G1.froz 9
  have c3 := G2.cells.2.2.2.2.2.2.2.2.2
  have HO := hid (HF.out _ G2 (f1.trans (F1.trans F2)))
  clear G1 G2 F1 F2 C34 HF HB
  go_wp2
  go_ret2
  exact HO.out
set_option maxHeartbeats 4000000 in
theorem turn17_6 (H : Px A P K W) (hi : nx P.k = 6) :
    Calls Try.prog 17 #[.pointer (some ⟨A.pb, 0, none⟩)] W fun e w' => TurnO A P K W e w' := by
  obtain ⟨nt, mt, nb, mb, q, hT, hB, k1, k2, k3, k4⟩ := H
  have hkd : Ph.knd P.k = 4 := by rw [knd_nx, hi]; rfl
  have hnx : nx (P.k + 1) = 7 := by rw [nx_next, hi]; rfl
  rw [hi] at q
  have C33 := hid (schedule33 W)
  have HM := hid (fun (w : World) (hb : Below W.heap.size W w) => show Calls Try.prog 49 #[.pointer (some ⟨A.pb, 0, none⟩)] w fun e w' => TrnO A P 4 nt mt nb mb 6 w e w' from t49 (q.below hb) k4)
  have HL := hid (fun (w : World) (hq : Pr A P.st (Ph.tsv A.n 4 P).2 P.T.length nt mt (if 4 = 2 then 0 else P.B.length) nb mb (Ph.tsv A.n 4 P).1 6 w) => leave34T hq)
  have HC := hid (fun (w : World) (hb : Below W.heap.size W w) => (q.below hb).cells.2.2.2.2.2.2.2.2.2)
  have HF := hid (fun (w : World) (hq : Pr A P.st (Ph.tsv A.n 4 P).2 0 nt mt (if 4 = 2 then 0 else P.B.length) nb mb (Ph.tsv A.n 4 P).1 7 w) (hf : Fa A W w) => show TurnO A P K W (.returned (.tuple #[.int .u8 4, .int .i64 0])) w from by
    refine ⟨by rw [hkd]; rfl, ⟨nt, mt, nb, mb, ?_, hT.left, ?_, k1, k2, k3, ?_⟩, Below.refl _ _, hf⟩
    · show Pr A P.st (Ph.tsv A.n (Ph.knd P.k) P).2 0 nt mt (if Ph.knd P.k = 2 then [] else P.B).length nb mb (Ph.tsv A.n (Ph.knd P.k) P).1 (nx (P.k + 1)) w
      rw [hkd, hnx]
      exact hq
    · show Ph.Mk A.n (if Ph.knd P.k = 2 then [] else P.B) nb mb
      rw [hkd]
      exact hB
    · exact tsv_us k4)
  clear q hT hB k1 k2 k3 k4 hi hkd hnx
  go_enter Try.func17, Try.ntmps17
  go_wp2_with (fail)
  go_at_call 33
  refine C33.out.mono ?_
  rintro e w1 ⟨rfl, b1⟩
  unfold sched
  have bx := b1.trans ((below_box w1 (.cells sched 74)).mono b1.size)
  have HB := hid (Fq.of_below (Q := fun g => ¬ A.own g) bx)
  have CM := hid (HM.out _ bx)
  have d9 := HC.out _ bx
  have y1 : (w1.alloc (.cells sched 74)).cell? ⟨w1.heap.size, 6, none⟩ = some (.func (.func 49) #[] #[]) := row_cell (heap_alloc_new w1 _) 6
  unfold sched at CM d9 y1 HB
  clear HM HC C33 b1 bx
  go_wp2_with (fail)
  go_at_call 49
  refine CM.out.mono ?_
  rintro e w2 ⟨rfl, q2, f2⟩
  have C34 := hid (HL.out _ q2)
  have f1 := HB.out.trans f2
  clear HL CM q2 f2 d9 y1
  go_wp2_with (fail)
  go_at_call 34
  refine C34.out.mono ?_
  rintro e w3 ⟨rfl, G1, F1⟩
  obtain ⟨G2, F2⟩ := G1.setK 7
  have c2 := G1.cells.2.2.2.2.2.2.2.2.2
  have f2 := G1.froz 9
  have c3 := G2.cells.2.2.2.2.2.2.2.2.2
  have HO := hid (HF.out _ G2 (f1.trans (F1.trans F2)))
  clear G1 G2 F1 F2 C34 HF HB
  go_wp2
  go_ret2
  exact HO.out
set_option maxHeartbeats 4000000 in
theorem turn17_7 (H : Px A P K W) (hi : nx P.k = 7) :
    Calls Try.prog 17 #[.pointer (some ⟨A.pb, 0, none⟩)] W fun e w' => TurnO A P K W e w' := by
  obtain ⟨nt, mt, nb, mb, q, hT, hB, k1, k2, k3, k4⟩ := H
  have hkd : Ph.knd P.k = 1 := by rw [knd_nx, hi]; rfl
  have hnx : nx (P.k + 1) = 2 := by rw [nx_next, hi]; rfl
  rw [hi] at q
  have C33 := hid (schedule33 W)
  have HM := hid (fun (w : World) (hb : Below W.heap.size W w) => show Calls Try.prog 46 #[.pointer (some ⟨A.pb, 0, none⟩)] w fun e w' => TrnO A P 1 nt mt nb mb 7 w e w' from t46 (q.below hb))
  have HL := hid (fun (w : World) (hq : Pr A P.st (Ph.tsv A.n 1 P).2 P.T.length nt mt (if 1 = 2 then 0 else P.B.length) nb mb (Ph.tsv A.n 1 P).1 7 w) => leave34T hq)
  have HC := hid (fun (w : World) (hb : Below W.heap.size W w) => (q.below hb).cells.2.2.2.2.2.2.2.2.2)
  have HF := hid (fun (w : World) (hq : Pr A P.st (Ph.tsv A.n 1 P).2 0 nt mt (if 1 = 2 then 0 else P.B.length) nb mb (Ph.tsv A.n 1 P).1 2 w) (hf : Fa A W w) => show TurnO A P K W (.returned (.tuple #[.int .u8 1, .int .i64 0])) w from by
    refine ⟨by rw [hkd]; rfl, ⟨nt, mt, nb, mb, ?_, hT.left, ?_, k1, k2, k3, ?_⟩, Below.refl _ _, hf⟩
    · show Pr A P.st (Ph.tsv A.n (Ph.knd P.k) P).2 0 nt mt (if Ph.knd P.k = 2 then [] else P.B).length nb mb (Ph.tsv A.n (Ph.knd P.k) P).1 (nx (P.k + 1)) w
      rw [hkd, hnx]
      exact hq
    · show Ph.Mk A.n (if Ph.knd P.k = 2 then [] else P.B) nb mb
      rw [hkd]
      exact hB
    · exact tsv_us k4)
  clear q hT hB k1 k2 k3 k4 hi hkd hnx
  go_enter Try.func17, Try.ntmps17
  go_wp2_with (fail)
  go_at_call 33
  refine C33.out.mono ?_
  rintro e w1 ⟨rfl, b1⟩
  unfold sched
  have bx := b1.trans ((below_box w1 (.cells sched 74)).mono b1.size)
  have HB := hid (Fq.of_below (Q := fun g => ¬ A.own g) bx)
  have CM := hid (HM.out _ bx)
  have d9 := HC.out _ bx
  have y1 : (w1.alloc (.cells sched 74)).cell? ⟨w1.heap.size, 7, none⟩ = some (.func (.func 46) #[] #[]) := row_cell (heap_alloc_new w1 _) 7
  unfold sched at CM d9 y1 HB
  clear HM HC C33 b1 bx
  go_wp2_with (fail)
  go_at_call 46
  refine CM.out.mono ?_
  rintro e w2 ⟨rfl, q2, f2⟩
  have C34 := hid (HL.out _ q2)
  have f1 := HB.out.trans f2
  clear HL CM q2 f2 d9 y1
  go_wp2_with (fail)
  go_at_call 34
  refine C34.out.mono ?_
  rintro e w3 ⟨rfl, G1, F1⟩
  obtain ⟨G2, F2⟩ := G1.setK 8
  have c2 := G1.cells.2.2.2.2.2.2.2.2.2
  have f2 := G1.froz 9
  obtain ⟨G3, F3⟩ := G2.setK 2
  have c3 := G2.cells.2.2.2.2.2.2.2.2.2
  have f3 := G2.froz 9
  have HO := hid (HF.out _ G3 (f1.trans (F1.trans (F2.trans F3))))
  clear G1 G2 G3 F1 F2 F3 C34 HF HB
  go_wp2
  go_ret2
  exact HO.out
theorem turn17 (H : Px A P K W) : Calls Try.prog 17 #[.pointer (some ⟨A.pb, 0, none⟩)] W fun e w' => TurnO A P K W e w' := by
  have := nx_lt P.k
  have h : nx P.k = 0 ∨ nx P.k = 1 ∨ nx P.k = 2 ∨ nx P.k = 3 ∨ nx P.k = 4 ∨ nx P.k = 5 ∨ nx P.k = 6 ∨ nx P.k = 7 := by omega
  rcases h with h | h | h | h | h | h | h | h
  · exact turn17_0 H h
  · exact turn17_1 H h
  · exact turn17_2 H h
  · exact turn17_3 H h
  · exact turn17_4 H h
  · exact turn17_5 H h
  · exact turn17_6 H h
  · exact turn17_7 H h
end
end Go.Proofs.Ytkodfojccodoaaa
