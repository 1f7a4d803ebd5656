/- The row from its beginning, as far as one likes. -/
import Derived.Test.YtcoajalgodlphaaRng
import Derived.Test.YtcoajalgodlphaaCms
namespace Go.Proofs.Ytcoajalgodlphaa
open Go.RowKit Av
set_option linter.unusedVariables false
set_option linter.unusedSimpArgs false

theorem and_i64_nat (a b : Nat) (ha : a < 9223372036854775808) (hb : b < 9223372036854775808) :
    bits .and .i64 (a : Int) (b : Int) = ((a &&& b : Nat) : Int) := by
  have hx : a &&& b < 2 ^ 63 := Nat.and_lt_two_pow _ (by omega)
  have h1 : (BitVec.ofInt 64 (a : Int)).toNat = a := by
    rw [BitVec.ofInt_natCast, BitVec.toNat_ofNat]; exact Nat.mod_eq_of_lt (by omega)
  have h2 : (BitVec.ofInt 64 (b : Int)).toNat = b := by
    rw [BitVec.ofInt_natCast, BitVec.toNat_ofNat]; exact Nat.mod_eq_of_lt (by omega)
  show IntKind.i64.wrap ((BitVec.ofInt 64 (a : Int) &&& BitVec.ofInt 64 (b : Int)).toNat : Int) = _
  rw [BitVec.toNat_and, h1, h2, IntKind.wrap_i64]
  omega
theorem keeps_set {B b k : Nat} (W : World) (v : Value) (h : b < B) : KeepsFrom B W (W.setCell ⟨b, k, none⟩ v) := ⟨by simp [World.setCell], fun i o hi ho _ => (heap_other W v (by omega)).trans ho⟩
theorem keeps_drew {B : Nat} {W W' : World} (h : Drawn W W') : KeepsFrom B W W' := by obtain ⟨q, rfl⟩ := h; exact ⟨Nat.le_refl _, fun i o hi ho _ => ho⟩
/-- The loop's own cells: the number, the result, how many came, their sum. -/
structure Rc (b0 b1 b2 b3 n j : Nat) (w W : World) : Prop where
  bn : Boxed W b0 2 (.int .i64 (n : Int))
  br : Boxed W b1 4 (.bool false)
  bk : Boxed W b2 2 (.int .i64 (j : Int))
  bs : Boxed W b3 2 (.int .i64 ((sm j : Nat) : Int))
  bel : Below b0 w W
  n1 : b0 < b1
  n2 : b1 < b2
  n3 : b2 < b3
theorem box_below' {W W' : World} {N B : Nat} {t : TypeId} {v : Value} (h : Boxed W B t v) (hb : Below N W W') (hB : B < N) : Boxed W' B t v := (hb.block B hB).trans h
theorem Rc.below {b0 b1 b2 b3 n j : Nat} {w W W' : World} {N : Nat} (H : Rc b0 b1 b2 b3 n j w W) (h : Below N W W') (hN : b3 < N) : Rc b0 b1 b2 b3 n j w W' := by
  have := H.n1; have := H.n2; have := H.n3
  exact ⟨box_below' H.bn h (by omega), box_below' H.br h (by omega), box_below' H.bk h (by omega), box_below' H.bs h (by omega), H.bel.trans (h.mono (by omega)), H.n1, H.n2, H.n3⟩
theorem Rc.up {b0 b1 b2 b3 n j : Nat} {w W : World} (H : Rc b0 b1 b2 b3 n j w W) : Rc b0 b1 b2 b3 n (j + 1) w ((W.setCell ⟨b2, 0, none⟩ (.int .i64 ((j + 1 : Nat) : Int))).setCell ⟨b3, 0, none⟩ (.int .i64 ((sm (j + 1) : Nat) : Int))) := by
  have := H.n1; have := H.n2; have := H.n3
  exact ⟨(H.bn.other (by omega) _).other (by omega) _, (H.br.other (by omega) _).other (by omega) _, (H.bk.set _).other (by omega) _, (H.bs.other (by omega) _).set _, (H.bel.setCell (by dsimp only; omega) _).setCell (by dsimp only; omega) _, H.n1, H.n2, H.n3⟩
theorem new4 (w : World) (a b c d : Value) (t u : TypeId) : let W := (((w.alloc (.cells #[a] t)).alloc (.cells #[b] u)).alloc (.cells #[c] t)).alloc (.cells #[d] t)
    Boxed W w.heap.size t a ∧ Boxed W (w.heap.size + 1) u b ∧ Boxed W (w.heap.size + 2) t c ∧ Boxed W (w.heap.size + 3) t d ∧ Below w.heap.size w W := by
  intro W
  have h2 := Boxed.new (w.alloc (.cells #[a] t)) u b
  have h3 := Boxed.new ((w.alloc (.cells #[a] t)).alloc (.cells #[b] u)) t c
  have h4 := Boxed.new (((w.alloc (.cells #[a] t)).alloc (.cells #[b] u)).alloc (.cells #[c] t)) t d
  simp only [World.size_alloc] at h2 h3 h4
  refine ⟨(((Boxed.new w t a).alloc _).alloc _).alloc _, (h2.alloc _).alloc _, h3.alloc _, h4, ?_⟩
  exact ((((Below.refl _ w).alloc (Nat.le_refl _) _).alloc (by simp) _).alloc (by simp; omega) _).alloc (by simp; omega) _
attribute [local go_sem] Oper.semAt_some
set_option maxRecDepth 100000 in
set_option maxHeartbeats 8000000 in
theorem rows21 (n : Nat) (w : World) (hn : n < 1000) :
    Calls Try.prog 21 #[.int .i64 (n : Int)] w fun e w' => e = .returned (.bool true) ∧ Below w.heap.size w w' := by
  have C33 := hid (row33 ((w.alloc (.cells #[.int .i64 (n : Int)] 2)).alloc (.cells #[.bool false] 4)))
  have IT := hid (row39 (n + 1) (by omega))
  obtain ⟨q1, q2, q3, q4, q5⟩ := new4 w (.int .i64 (n : Int)) (.bool false) (.int .i64 0) (.int .i64 0) 2 4
  have HQ := hid (show Rc w.heap.size (w.heap.size + 1) (w.heap.size + 1 + 1) (w.heap.size + 1 + 1 + 1) n 0 w ((((w.alloc (.cells #[.int .i64 (n : Int)] 2)).alloc (.cells #[.bool false] 4)).alloc (.cells #[.int .i64 0] 2)).alloc (.cells #[.int .i64 0] 2)) from ⟨q1, q2, q3, q4, q5, by omega, by omega, by omega⟩)
  clear q1 q2 q3 q4 q5
  have HN := hid hn
  have hE : ∀ X : World, (binOp BinOp.eql 68 (Value.func (Fn.func 39) #[] #[]) Value.nilFunc).run Try.prog X = .ok (.bool false) X := fun X => by kernel_rfl
  refine (callsIn_wide (n := 9)).1 ?_
  refine callsIn_of_wp_marks Try.func21 rfl trivial ?_ rfl
  simp only [Try.ntmps21, List.size_toArray, List.length_cons, List.length_nil, Nat.reduceAdd, Nat.reduceSub, Array.replicate_succ, Array.replicate_zero, List.push_toArray, List.append_toArray, List.nil_append, List.cons_append]
  refine wpIn_wide.2 ?_
  go_wp2_with (go_at_call 33; refine C33.out.mono ?_; rintro e w7 ⟨rfl, hw7⟩; rw [hw7]; clear hw7)
  clear hE C33
  have hsz : ((((w.alloc (.cells #[.int .i64 (n : Int)] 2)).alloc (.cells #[.bool false] 4)).alloc (.cells #[.int .i64 0] 2)).alloc (.cells #[.int .i64 0] 2)).heap.size = w.heap.size + 1 + 1 + 1 + 1 := by simp
  obtain ⟨W4, hW4⟩ : ∃ W4, ((((w.alloc (.cells #[.int .i64 (n : Int)] 2)).alloc (.cells #[.bool false] 4)).alloc (.cells #[.int .i64 0] 2)).alloc (.cells #[.int .i64 0] 2)) = W4 := ⟨_, rfl⟩
  rw [hW4] at HQ hsz ⊢
  obtain ⟨b0, hb0⟩ : ∃ b0, w.heap.size = b0 := ⟨_, rfl⟩
  rw [hb0] at HQ hsz ⊢
  obtain ⟨b1, hb1⟩ : ∃ b1, b0 + 1 = b1 := ⟨_, rfl⟩
  rw [hb1] at HQ hsz ⊢
  obtain ⟨b2, hb2⟩ : ∃ b2, b1 + 1 = b2 := ⟨_, rfl⟩
  rw [hb2] at HQ hsz ⊢
  obtain ⟨b3, hb3⟩ : ∃ b3, b2 + 1 = b3 := ⟨_, rfl⟩
  rw [hb3] at HQ hsz ⊢
  have HB0 := hid hb0
  have HZ := hid (show b3 < W4.heap.size by omega)
  have HZ2 := hid (show b0 < b1 ∧ b1 < b2 ∧ b2 < b3 by omega)
  clear hW4 hb0 hb1 hb2 hb3 hsz
  refine (wpIn_wide (n := 9)).1 ?_
  refine range_in rfl (enters_of Try.func39 (by kernel_rfl) rfl) IT.out rfl
    (fun k W => k ≤ n ∧ Rc b0 b1 b2 b3 n k w W) (fun cd W => cd = .exit 0 ∧ Rc b0 b1 b2 b3 n (n + 1) w W)
    (fun k A B h hb => ⟨h.1, h.2.below hb HZ.out⟩) (fun cd A B h hb _ => ⟨h.1, h.2.below hb HZ.out⟩) (fun W h => by have := h.1; omega) ⟨Nat.zero_le _, HQ.out⟩
    (fun k => { tmps := #[Value.int IntKind.i64 ↑n, Value.pointer (some { block := b0, off := 0 }),
          Value.pointer (some { block := b1, off := 0 }), Value.func (Fn.func 39) #[] #[],
          Value.pointer (some { block := b2, off := 0 }), Value.pointer (some { block := b3, off := 0 }), .int .i64 ((lby (k + 1) : Nat) : Int), undef, undef,
          Value.func (Fn.func 39) #[] #[], Value.func (Fn.func 39) #[] #[], Value.bool false,
          Value.func (Fn.func 39) #[] #[], .int .i64 ((lby (k + 1) : Nat) : Int), undef, undef, undef, undef, undef, undef, undef, undef, undef, undef,
          undef, undef, undef, undef, undef, undef, undef, undef, undef, undef, undef, undef, undef, undef, undef,
          undef, undef, undef, undef, undef, undef, undef, undef, undef, undef, undef, undef], defers := [] }) ?assign ?body ?stop
  case assign =>
    intro l m k W K hK
    gi_wp2
    simpa using hK
  case body =>
    rintro l m k W hl hsz hk ⟨hkn, HR⟩
    have hkn' := HN.out
    have c2 := HR.bk.cell
    have f2 := HR.bk.frozen
    have c3 := HR.bs.cell
    have f3 := HR.bs.frozen
    have hsm : sm k ≤ 1000000 := by have h1 := sm_le k; have h2 : k * k ≤ 1000 * 1000 := Nat.mul_le_mul (by omega) (by omega); omega
    have hlb := lby_bd (i := k + 1) (by omega)
    have hse : sm (k + 1) = sm k + lby (k + 1) := rfl
    have C20 := hid (luby20_ok (k + 1) ((W.setCell ⟨b2, 0, none⟩ (.int .i64 ((k + 1 : Nat) : Int))).setCell ⟨b3, 0, none⟩ (.int .i64 ((sm (k + 1) : Nat) : Int))) (by omega) (by omega))
    have HU := hid HR.up
    have HA := hid (and_i64_nat (k + 1) (k + 1 + 1) (by omega) (by omega))
    have HC34 := hid (fun (X : World) (h : (k + 1) &&& (k + 1 + 1) = 0) => comes34 (k + 1) X (by omega) (by omega) h)
    have HKB := hid (show KeepsFrom W4.heap.size W ((W.setCell ⟨b2, 0, none⟩ (.int .i64 ((k + 1 : Nat) : Int))).setCell ⟨b3, 0, none⟩ (.int .i64 ((sm (k + 1) : Nat) : Int))) from (keeps_set W _ (by have := HZ.out; have := HZ2.out; omega)).trans (keeps_set _ _ (by have := HZ.out; omega)))
    obtain ⟨kI, hkI⟩ : ∃ kI : Int, (k : Int) = kI := ⟨_, rfl⟩
    have hk1 : ((k + 1 : Nat) : Int) = kI + 1 := by omega
    have hk2 : ((k + 1 + 1 : Nat) : Int) = kI + 1 + 1 := by omega
    have hsI : ((sm (k + 1) : Nat) : Int) = ((sm k : Nat) : Int) + ((lby (k + 1) : Nat) : Int) := by rw [hse]; omega
    obtain ⟨SM, hSM⟩ : ∃ SM : Int, ((sm k : Nat) : Int) = SM := ⟨_, rfl⟩
    obtain ⟨SN, hSN⟩ : ∃ SN : Int, ((sm (k + 1) : Nat) : Int) = SN := ⟨_, rfl⟩
    obtain ⟨LB, hLB⟩ : ∃ LB : Int, ((lby (k + 1) : Nat) : Int) = LB := ⟨_, rfl⟩
    rw [hSM, hSN, hLB] at hsI
    have hsI2 : SM + LB = SN := hsI.symm
    have w1 : wrap64 (kI + 1) = kI + 1 := by unfold wrap64; omega
    have w2 : wrap64 SN = SN := by unfold wrap64; omega
    have w3 : wrap64 (kI + 1 + 1) = kI + 1 + 1 := by unfold wrap64; omega
    rw [hkI] at c2
    rw [hSM] at c3
    rw [hk1, hSN] at C20 HKB
    rw [hLB] at C20 ⊢
    rw [hk1, hk2] at HA
    have HU2 := hid (fun (X : World) (hd : Drawn ((W.setCell ⟨b2, 0, none⟩ (.int .i64 (kI + 1))).setCell ⟨b3, 0, none⟩ (.int .i64 SN)) X) => show Rc b0 b1 b2 b3 n (k + 1) w X from by
      have h1 := HU.out
      rw [hk1, hSN] at h1
      exact h1.below hd.below (by have := h1.bs.lt; omega))
    have HC := hid (fun (X : World) (h : Rc b0 b1 b2 b3 n (k + 1) w X) => show X.cell? ⟨b0, 0, none⟩ = some (.int .i64 (n : Int)) ∧ X.cell? ⟨b2, 0, none⟩ = some (.int .i64 (kI + 1)) ∧ X.cell? ⟨b3, 0, none⟩ = some (.int .i64 SN) from by
      have e2 := h.bk.cell
      have e3 := h.bs.cell
      rw [hk1] at e2
      rw [hSN] at e3
      exact ⟨h.bn.cell, e2, e3⟩)
    rw [hk1, hSN] at HC34
    have hne23 : b2 ≠ b3 := by have := HZ2.out; omega
    have hne32 : b3 ≠ b2 := by have := HZ2.out; omega
    obtain ⟨W2, hW2⟩ : ∃ W2, (W.setCell ⟨b2, 0, none⟩ (.int .i64 (kI + 1))).setCell ⟨b3, 0, none⟩ (.int .i64 SN) = W2 := ⟨_, rfl⟩
    rw [hW2] at C20 HKB HU2
    obtain ⟨z0, z2, z3⟩ := HC.out W2 (HU2.out W2 (Drawn.refl W2))
    have HKN := hid hkn
    have hgt : (n = k ∧ (n : Int) < kI + 1) ∨ (k < n ∧ ¬ (n : Int) < kI + 1) := by omega
    clear hkn' hsm hlb hse hsI hSM hSN hLB HR HU hk1 hk2 hkI hl hsz hk hkn
    by_cases hz : (k + 1) &&& (k + 1 + 1) = 0
    · have ha : bits .and .i64 (kI + 1) (kI + 1 + 1) = 0 := by rw [HA.out, hz]; rfl
      rcases hgt with ⟨hgn, hg⟩ | ⟨hgn, hg⟩
      · skip
        gi_wp2_with (first
          | (refine ⟨trivial, fun h => (by cases h), ?_⟩; gi_at_call 20; refine (CallsIn.inRound l (callsIn_wide.2 C20.out)).mono ?_; clear C20; rintro e w5 ⟨rfl, hd5⟩; have HR5 := hid (HU2.out w5 hd5); have HD5 := hid hd5; obtain ⟨e0, e2, e3⟩ := HC.out w5 HR5.out; clear hd5 c2 c3 f2 f3 hW2 z0 z2 z3; have C34 := hid (HC34.out w5 hz))
          | (refine ⟨trivial, fun h => (by cases h), ?_⟩; gi_at_call 34; refine (CallsIn.inRound l (callsIn_wide.2 C34.out)).mono ?_; rintro e w6 ⟨rfl, hw6⟩; rw [hw6]; clear hw6)
          | (rw [Oper.semAt_some _ _ _ (fun c => (by intro h; cases h))]; go_simp))
        exact ⟨HKB.out.trans (keeps_drew HD5.out), rfl, hgn ▸ HR5.out⟩
      · skip
        gi_wp2_with (first
          | (refine ⟨trivial, fun h => (by cases h), ?_⟩; gi_at_call 20; refine (CallsIn.inRound l (callsIn_wide.2 C20.out)).mono ?_; clear C20; rintro e w5 ⟨rfl, hd5⟩; have HR5 := hid (HU2.out w5 hd5); have HD5 := hid hd5; obtain ⟨e0, e2, e3⟩ := HC.out w5 HR5.out; clear hd5 c2 c3 f2 f3 hW2 z0 z2 z3; have C34 := hid (HC34.out w5 hz))
          | (refine ⟨trivial, fun h => (by cases h), ?_⟩; gi_at_call 34; refine (CallsIn.inRound l (callsIn_wide.2 C34.out)).mono ?_; rintro e w6 ⟨rfl, hw6⟩; rw [hw6]; clear hw6)
          | (rw [Oper.semAt_some _ _ _ (fun c => (by intro h; cases h))]; go_simp))
        exact ⟨HKB.out.trans (keeps_drew HD5.out), hgn, HR5.out⟩
    · have ha : (bits .and .i64 (kI + 1) (kI + 1 + 1) == 0) = false := by rw [HA.out]; simp; exact hz
      rcases hgt with ⟨hgn, hg⟩ | ⟨hgn, hg⟩
      · skip
        gi_wp2_with (first
          | (refine ⟨trivial, fun h => (by cases h), ?_⟩; gi_at_call 20; refine (CallsIn.inRound l (callsIn_wide.2 C20.out)).mono ?_; clear C20; rintro e w5 ⟨rfl, hd5⟩; have HR5 := hid (HU2.out w5 hd5); have HD5 := hid hd5; obtain ⟨e0, e2, e3⟩ := HC.out w5 HR5.out; clear hd5 c2 c3 f2 f3 hW2 z0 z2 z3)
          | (rw [Oper.semAt_some _ _ _ (fun c => (by intro h; cases h))]; go_simp))
        refine ⟨trivial, ?_⟩
        gi_wp2_with (rw [Oper.semAt_some _ _ _ (fun c => (by intro h; cases h))]; go_simp)
        exact ⟨HKB.out.trans (keeps_drew HD5.out), rfl, hgn ▸ HR5.out⟩
      · skip
        gi_wp2_with (first
          | (refine ⟨trivial, fun h => (by cases h), ?_⟩; gi_at_call 20; refine (CallsIn.inRound l (callsIn_wide.2 C20.out)).mono ?_; clear C20; rintro e w5 ⟨rfl, hd5⟩; have HR5 := hid (HU2.out w5 hd5); have HD5 := hid hd5; obtain ⟨e0, e2, e3⟩ := HC.out w5 HR5.out; clear hd5 c2 c3 f2 f3 hW2 z0 z2 z3)
          | (rw [Oper.semAt_some _ _ _ (fun c => (by intro h; cases h))]; go_simp))
        refine ⟨trivial, ?_⟩
        gi_wp2_with (rw [Oper.semAt_some _ _ _ (fun c => (by intro h; cases h))]; go_simp)
        exact ⟨HKB.out.trans (keeps_drew HD5.out), hgn, HR5.out⟩
  case stop =>
    rintro D cd W hD ⟨rfl, HR⟩ hd
    have c0 := HR.bn.cell
    have c2 := HR.bk.cell
    have f1 := HR.br.frozen
    have c1 := HR.br.cell
    have HD := hid hd
    have HH := hid HR
    have hnn := HN.out
    obtain ⟨nI, hnI⟩ : ∃ nI : Int, (n : Int) = nI := ⟨_, rfl⟩
    have h1 : ((n + 1 : Nat) : Int) = nI + 1 := by omega
    rw [h1] at c2
    rw [hnI] at c0
    have hw : wrap64 (nI + 1) = nI + 1 := by unfold wrap64; omega
    clear hd HR IT h1 hnI hnn
    gi_wp2
    go_wp2
    have hr1 : (W.setCell ⟨b1, 0, none⟩ (.bool true)).heap[b1]? = some (.cells #[.bool true] 4 (0, 0)) := HH.out.br.set (.bool true)
    have hd2 : (W.setCell ⟨b1, 0, none⟩ (.bool true)).heap[D]? = some (.deferred (some [])) := (heap_other W _ (by have := HZ.out; have := HZ2.out; omega)).trans HD.out
    have hbl : Below w.heap.size w (W.setCell ⟨b1, 0, none⟩ (.bool true)) := HB0.out.symm ▸ HH.out.bel.setCell (by have := HZ2.out; dsimp only; omega) _
    have hr2 : ((W.setCell ⟨b1, 0, none⟩ (.bool true)).putObj D (.deferred none)).cell? ⟨b1, 0, none⟩ = some (.bool true) := by
      rw [row_cell ((World.putObj_heap_other (by have := HZ.out; have := HZ2.out; omega)).trans hr1) 0]; rfl
    refine leave_one hd2 ⟨.bool true, ?_, rfl, hbl.trans (below_put _ _ (by have := HZ.out; have := HZ2.out; have := HB0.out; omega))⟩
    simp [results, Try.results21, go_sem, hr2]
end Go.Proofs.Ytcoajalgodlphaa
