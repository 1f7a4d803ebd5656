/- The document's heap: bump. -/
import Derived.Test.YtjbnkkjihcoojaaDl
namespace Go.Proofs.Ytjbnkkjihcoojaa
open Go.RowKit Go.Maps
set_option linter.unusedVariables false
set_option maxRecDepth 100000

theorem wrapS {k : Nat} (h : k ≤ 2000000) : wrap64 ((k : Int) + 1) = (k : Int) + 1 := by unfold wrap64; omega
theorem le_big {k n m : Nat} (h : k < m) (hm : n + 1 = m) (hn : n ≤ 1048576) : k ≤ 2000000 := by omega
theorem le_big2 {k t : Nat} (h : k < t) (hn : t ≤ 1048576) : k ≤ 2000000 := by omega
theorem meas1 {j m : Nat} (h : j + 1 < m) : m - ((j : Int) + 1 + 1).toNat < m - ((j + 1 : Nat) : Int).toNat := by omega
theorem meas0 {m : Nat} (h : 0 < m) : m - (1 : Int).toNat < m - ((0 : Nat) : Int).toNat := by omega
set_option maxHeartbeats 8000000 in
theorem bump34_up {M : Nat → Prop} {mb n : Nat} {sc : List Int} {L : List Nat} {W : World} (H : Dx M mb n sc L W) {u : Nat} (hu : u < n) (by_ : Int) (h1 : 0 ≤ by_) (h2 : by_ ≤ 1152921504606846976) (h3 : 1152921504606846976 < sc.getD u 0 + by_) :
    Calls Try.prog 34 #[.pointer (some ⟨mb, 0, none⟩), .int .i64 ((u : Int) + 1), .int .i64 by_] W fun e w' => e = .returned (.tuple #[.bool true, .int .i64 0]) ∧ DxO M mb n (Hpp.halves (sc.set u (sc.getD u 0 + by_))) (Hpp.srt (Hpp.halves (sc.set u (sc.getD u 0 + by_))) L) W w' := by
  have C := hid (is49_ok H hu)
  have hG := H.gx
  have hsu := hG.bd u hu
  obtain ⟨sv, lv, hD, _⟩ := H
  obtain ⟨gs, cs, rfl, hc⟩ := Sc.at (W := W) hD.scs (u := 0) (by omega)
  obtain ⟨hS1, hS2⟩ := (hD.below (Drawn.below (w' := W.drew) ⟨1, rfl⟩)).setS u (sc.getD u 0 + by_)
  have hS2 := (Fq.of_below (Q := Qm M W) (Drawn.below (w := W) (w' := W.drew) ⟨1, rfl⟩)).trans hS2
  have c0 := row_cell hD.blk 0
  have x1 := hc (u + 1) (by omega)
  simp only [List.getD_cons_succ] at x1
  have f1 := (own_cell2 hD.scs (k := u + 1) (by omega))
  have hx : (u : Int) + 1 < ((n + 1 : Nat) : Int) := by omega
  obtain ⟨m, hm⟩ : ∃ m, n + 1 = m := ⟨_, rfl⟩
  have hlen1 : (sc.set u (sc.getD u 0 + by_)).length = n := by rw [List.length_set]; exact hG.len
  have hbd1 : ∀ k, k < n → 0 ≤ (sc.set u (sc.getD u 0 + by_)).getD k 0 ∧ (sc.set u (sc.getD u 0 + by_)).getD k 0 ≤ 2305843009213693952 := bd_set hG.len hu hG.bd (by omega) (by omega) (by omega)
  have hg1 : Gx n (Hpp.halves (sc.set u (sc.getD u 0 + by_))) L := ⟨hG.mx, by unfold Hpp.halves; rw [List.length_map]; exact hlen1, hG.nd, hG.lt, fun k hk => by
    rw [Hpp.halves_get]
    have := hbd1 k hk
    omega⟩
  have d0 := row_cell hS1.blk 0
  have d1 := row_cell hS1.blk 1
  have y1 := (Sc.at (W := _) hS1.scs (u := u + 1) (by omega))
  obtain ⟨_, _, ee, hcc⟩ := y1
  cases ee
  have y1 := hcc (u + 1) (by omega)
  simp only [List.getD_cons_succ] at y1
  rw [Hpp.setD sc u _ (by rw [hG.len]; exact hu), if_pos rfl] at y1
  obtain ⟨ol, cl, rfl⟩ := own_slc hS1.row
  have HS := hid (And.intro hS1 hS2)
  have HG1 := hid hg1
  have HBD := hid hbd1
  have HL1 := hid hlen1
  obtain ⟨t, ht⟩ : ∃ t, L.length = t := ⟨_, rfl⟩
  have HT := hid ht
  have HLN := hid (show t ≤ 1048576 by have := nodup_len n L hG.nd hG.lt; have := hG.mx; omega)
  have f2 := row_frozen hS1.blk 1
  have hw : wrap64 (sc.getD u 0 + by_) = sc.getD u 0 + by_ := by unfold wrap64; omega
  have h3' : decide (1152921504606846976 < sc.getD u 0 + by_) = true := decide_eq_true h3
  clear hD hG hS1 hS2 hg1 hc hcc hbd1 hlen1
  generalize hsc1 : sc.set u (sc.getD u 0 + by_) = sc1 at *
  generalize sc.getD u 0 = s0 at *
  have hw2 : IntKind.i64.wrap (s0 + by_) = s0 + by_ := by simp [IntKind.wrap, IntKind.bits, IntKind.signed]; omega
  obtain ⟨W1, hW1⟩ : ∃ W1, W.drew.setCell ⟨gs, u + 1, none⟩ (.int .i64 (s0 + by_)) = W1 := ⟨_, rfl⟩
  rw [hW1] at d0 d1 y1 HS f2
  rw [ht] at HS
  have hb1 : ¬ by_ < 0 := by omega
  have hb2 : ¬ 1152921504606846976 < by_ := by omega
  clear h1 h2 h3 hsu hw
  rw [hm] at hx c0 d0
  go_enter Try.func34, Try.ntmps34
  go_wp2_with (go_at_call 49; refine C.out.mono ?_; rintro e w4 ⟨rfl, hw4⟩; rw [hw4]; clear hw4)
  go_region
  go_wp2_with (fail)
  clear d0 d1 y1 f2
  go_loopw [9] (fun i wr => ∃ k : Nat, k ≤ m ∧ i = .int .i64 (k : Nat) ∧ Hid (Dm (Qm M W) mb (.slice (some ⟨gs, 0, none⟩) (n + 1) cs) (.slice ol t cl) n (Hpp.hvk sc1 (k - 1)) L wr ∧ Fq (Qm M W) W wr)) (fun i _ => m - (intOf i).toNat)
  case atStart => exact ⟨0, Nat.zero_le _, rfl, hid (by have := HS.out; rw [← Hpp.hvk_zero sc1] at this; exact this)⟩
  case round =>
    obtain ⟨k, hk, rfl, HR⟩ := hrel
    have c0 := row_cell HR.out.1.blk 0
    have c1 := row_cell HR.out.1.blk 1
    rw [hm] at c0
    by_cases hlt : k < m
    · have hlt' : (k : Int) < m := by omega
      have hk1 : wrap64 ((k : Int) + 1) = (k : Int) + 1 := wrapS (le_big hlt hm HG1.out.mx)
      obtain ⟨g', c', e1, hc⟩ := Sc.at (W := wr) HR.out.1.scs (u := k) (by omega)
      cases e1
      have ck := hc k (by omega)
      have fk := own_cell2 HR.out.1.scs (k := k) (by omega)
      have hdr := hid (fun (X : World) => show Below X.heap.size X X.drew from Drawn.below ⟨1, rfl⟩)
      rcases Nat.eq_zero_or_pos k with h0 | h0
      · subst h0
        obtain ⟨q1, q2⟩ := HR.out.1.set0
        have HN := hid (show Dm (Qm M W) mb (.slice (some ⟨gs, 0, none⟩) (n + 1) cs) (.slice ol t cl) n (Hpp.hvk sc1 (0 + 1 - 1)) L _ ∧ Fq (Qm M W) W _ from ⟨q1.below (hdr.out _), (HR.out.2.trans q2).trans (Fq.of_below (hdr.out _))⟩)
        simp only [List.getD_cons_zero] at ck
        clear q1 q2 hc HR
        go_wp2_with (fail)
        go_region
        go_wp2_with (fail)
        exact ⟨⟨0 + 1, hlt, rfl, HN⟩, by simp only [intOf]; exact meas0 hlt⟩
      · obtain ⟨j, rfl⟩ : ∃ j, k = j + 1 := ⟨k - 1, by omega⟩
        have hjn : j < n := by omega
        simp only [List.getD_cons_succ, Nat.add_sub_cancel] at ck
        rw [Hpp.hvk_get sc1 (by rw [HL1.out]; exact hjn)] at ck
        have ⟨b1, b2⟩ := HBD.out j hjn
        obtain ⟨q1, q2⟩ := HR.out.1.setS j (sc1.getD j 0 / 1073741824)
        simp only [Nat.add_sub_cancel] at q1
        rw [Hpp.hvk_set sc1 (by rw [HL1.out]; exact hjn)] at q1
        have HN := hid (show Dm (Qm M W) mb (.slice (some ⟨gs, 0, none⟩) (n + 1) cs) (.slice ol t cl) n (Hpp.hvk sc1 (j + 1 + 1 - 1)) L _ ∧ Fq (Qm M W) W _ from ⟨q1.below (hdr.out _), (HR.out.2.trans q2).trans (Fq.of_below (hdr.out _))⟩)
        generalize sc1.getD j 0 = x at *
        clear q1 q2 hc HR
        go_wp2_with (fail)
        go_region
        go_wp2_with (fail)
        rw [show wrap64 ((j : Int) + 1 + 1) = (j : Int) + 1 + 1 from wrapS (k := j + 1) (le_big hlt hm HG1.out.mx)]
        exact ⟨⟨j + 1 + 1, hlt, rfl, HN⟩, by simp only [intOf]; exact meas1 hlt⟩
    · have hge : ¬ (k : Int) < m := by omega
      have f2 := row_frozen HR.out.1.blk 1
      have OLD := hid (Old.begin (by have := HR.out.1; rw [Hpp.hvk_all sc1 (k - 1) (by rw [HL1.out]; omega)] at this; exact this) HR.out.2 HG1.out)
      obtain ⟨W2, hW2⟩ : ∃ W2, World.setCell wr ⟨mb, 1, none⟩ (.slice none 0 0) = W2 := ⟨_, rfl⟩
      rw [hW2] at OLD
      clear HR
      go_wp2_with (fail)
      go_loopw [11] (fun i wr => ∃ k : Nat, k ≤ t ∧ i = .int .i64 (k : Nat) ∧ Hid (DxO (fun g => (M g ∨ W.heap.size ≤ g) ∧ (Value.slice ol t cl).ownBlock ≠ some g) mb n (Hpp.halves sc1) (Hpp.srt (Hpp.halves sc1) (L.take k)) W2 wr)) (fun i _ => t - (intOf i).toNat)
      case atStart => exact ⟨0, Nat.zero_le _, rfl, hid (by
        have := OLD.out.dx.below (Below.refl _ _)
        simpa [Hpp.srt] using this)⟩
      case round =>
        obtain ⟨k, hk, rfl, HR⟩ := hrel
        by_cases hlt : k < t
        · have hlt' : (k : Int) < t := by omega
          have hk1 : wrap64 ((k : Int) + 1) = (k : Int) + 1 := wrapS (le_big2 hlt HLN.out)
          have hro := OLD.out.at (k := 0) HR.out
          rw [HT.out] at hro
          obtain ⟨g9, c9, e9, q9⟩ := own_at hro (Nat.lt_of_le_of_lt (Nat.zero_le _) hlt)
          injection e9 with e91 e92 e93
          subst e91
          clear e92 e93
          have x9 := q9 k hlt
          have C9 := hid (OLD.out.put (by rw [HT.out]; exact hlt) HR.out)
          generalize ((L.getD k 0 : Nat) : Int) + 1 = z at x9 C9
          clear hro q9
          go_wp2_with (go_at_call 50; refine C9.out.mono ?_; rintro e w9 ⟨rfl, h9⟩; have HN := hid h9; clear h9)
          simp only [hk1]
          go_roundw
          case rel => exact ⟨k + 1, hlt, rfl, HN⟩
          case measure => simp only [intOf]; exact measD hlt
        · have hge : ¬ (k : Int) < t := by omega
          have HO := hid (show DxO M mb n (Hpp.halves sc1) (Hpp.srt (Hpp.halves sc1) L) W _ from bump_end OLD.out.fq (by
            have := HR.out
            rw [List.take_of_length_le (by rw [HT.out]; omega)] at this
            exact this))
          clear HR
          go_wp2
          go_ret2
          exact ⟨rfl, HO.out⟩
end Go.Proofs.Ytjbnkkjihcoojaa
