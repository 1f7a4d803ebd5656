/- Sorting in place: the row in memory, insertion. -/
import Derived.Test.YtjbnkkjihcoojaaSoP
import Derived.Test.YtjbnkkjihcoojaaCmp
import Derived.Test.YtjbnkkjihcoojaaSwp
namespace Go.Proofs.Ytjbnkkjihcoojaa
open Go.RowKit Go.Maps
set_option linter.unusedVariables false
set_option maxRecDepth 100000

/-- A row of variables that is sorted, on from a world. -/
structure So (B : World) (blk cap : Nat) (sv : Value) (n : Nat) (sc : List Int) (ds : List Nat) (W : World) : Prop where
  row : W.ownsRow 0 3 1 (.slice (some ⟨blk, 0, none⟩) ds.length cap) ds.length (ivs ds)
  scs : Sc sv n sc W
  ne : sv.ownBlock ≠ some blk
  fr : Fq (fun g => g ≠ blk) B W
  lt : ∀ u ∈ ds, u < n
  nd : ds.Nodup
theorem So.below {B : World} {blk cap : Nat} {sv : Value} {n : Nat} {sc : List Int} {ds : List Nat} {W W' : World} (h : So B blk cap sv n sc ds W) (hb : Below W.heap.size W W') : So B blk cap sv n sc ds W' :=
  ⟨own_below h.row hb, h.scs.below hb, h.ne, h.fr.trans (Fq.of_below hb), h.lt, h.nd⟩
theorem So.cells {B : World} {blk cap : Nat} {sv : Value} {n : Nat} {sc : List Int} {ds : List Nat} {W : World} (h : So B blk cap sv n sc ds W) {k : Nat} (hk : k < ds.length) : W.cell? ⟨blk, k, none⟩ = some (.int .i64 ((ds.getD k 0 : Nat) + 1 : Int)) ∧ W.frozen? ⟨blk, k, none⟩ = false ∧ ds.getD k 0 < n := by
  refine ⟨?_, ?_, h.lt _ (by rw [Hpp.getD_el ds hk]; exact List.getElem_mem hk)⟩
  · have := World.ownsRow.cellAt h.row k (by omega)
    rw [this, ivs_at hk]
  · obtain ⟨g, c, cur, e1, _, hg, _⟩ := own_some h.row (by omega)
    cases e1
    exact row_frozen hg k
/-- The world of an exchange. -/
def exW (W : World) (blk i j a b : Nat) : World := (W.setCell ⟨blk, i, none⟩ (.int .i64 ((b : Int) + 1))).setCell ⟨blk, j, none⟩ (.int .i64 ((a : Int) + 1))
theorem So.swap {B : World} {blk cap : Nat} {sv : Value} {n : Nat} {sc : List Int} {ds : List Nat} {W : World} (h : So B blk cap sv n sc ds W) {i j : Nat} (hi : i < ds.length) (hj : j < ds.length) : So B blk cap sv n sc (Hpp.swp ds i j) (exW W blk i j (ds.getD i 0) (ds.getD j 0)) := by
  unfold exW
  have hp := Hpp.swp_perm hi hj
  refine ⟨?_, own_keep (own_keep h.scs h.ne _) h.ne _, h.ne, (h.fr.trans (Fq.set W _ (fun e => e rfl))).trans (Fq.set _ _ (fun e => e rfl)), fun u hu => h.lt u (hp.mem_iff.1 hu), hp.nodup_iff.2 h.nd⟩
  have h2 := own_setc (own_setc h.row i (.int .i64 ((ds.getD j 0 : Nat) + 1 : Int))) j (.int .i64 ((ds.getD i 0 : Nat) + 1 : Int))
  rw [ivs_set, ivs_set] at h2
  rw [Hpp.swp_len]
  exact h2
theorem So.cmp {B : World} {blk cap : Nat} {sv : Value} {n : Nat} {sc : List Int} {ds : List Nat} {W : World} (h : So B blk cap sv n sc ds W) (hn : n ≤ 1048576) {i j : Nat} (hi : i < ds.length) (hj : j < ds.length) :
    ∀ w, Drawn W w → Calls Try.prog 46 #[sv, .int .i64 ((ds.getD i 0 : Nat) + 1 : Int), .int .i64 ((ds.getD j 0 : Nat) + 1 : Int)] w fun e w' => e = .returned (.int .i64 (Hpp.cf sc (ds.getD i 0) (ds.getD j 0))) ∧ Drawn w w' :=
  fun w hd => compare46 (h.scs.below hd.below) hn (h.cells hi).2.2 (h.cells hj).2.2
theorem i64_wrap_nat' {u : Nat} (h : u < 4194304) : IntKind.i64.wrap (u : Int) = u := by
  simp [IntKind.wrap, IntKind.bits, IntKind.signed]; omega
def InsOut (B : World) (blk cap : Nat) (sv : Value) (n : Nat) (sc : List Int) (ds : List Nat) (a b : Nat) (w' : World) : Prop := ∃ ds', So B blk cap sv n sc ds' w' ∧ Hpp.PI a b ds' ds ∧ Hpp.Sin sc a b ds'
set_option maxHeartbeats 2000000 in
theorem ins61 {B : World} {blk cap : Nat} {sv : Value} {n : Nat} {sc : List Int} {ds : List Nat} {W : World} (h : So B blk cap sv n sc ds W) (hn : n ≤ 1048576) {a b m : Nat} (hm : ds.length = m) (hml : m ≤ 1048576) (ha : a ≤ b) (hb : b ≤ m) :
    Calls Try.prog 61 #[.slice (some ⟨blk, 0, none⟩) m cap, .int .i64 a, .int .i64 b, cmpv sv] W fun e w' => e = .returned (.tuple #[]) ∧ InsOut B blk cap sv n sc ds a b w' := by
  have HH := hid h
  have HM := hid hm
  clear h hm
  go_enter Try.func61, Try.ntmps61
  go_wp2
  go_loopw [8] (fun iv wr => ∃ (i : Nat) (d1 : List Nat), a + 1 ≤ i ∧ (i ≤ b ∨ i = a + 1) ∧ iv = .int .i64 (i : Nat) ∧ Hid (d1.length = m ∧ So B blk cap sv n sc d1 wr ∧ Hpp.PI a b d1 ds ∧ Hpp.Sin sc a i d1)) (fun iv _ => m + 1 - (intOf iv).toNat)
  case atStart => exact ⟨a + 1, ds, Nat.le_refl _, .inr rfl, by go_num, hid ⟨HM.out, HH.out, Hpp.PI.refl _ _ _, Hpp.Sin.one _ _ _⟩⟩
  case round =>
    obtain ⟨i, d1, hi1, hi2, rfl, HR⟩ := hrel
    by_cases hlt : i < b
    · have hlt' : (i : Int) < b := by omega
      obtain ⟨wo, hwo⟩ : ∃ wo, wo = wr := ⟨wr, rfl⟩
      subst hwo
      go_wp2
      go_loopw [9] (fun jv wr => ∃ (j : Nat) (d2 : List Nat), a ≤ j ∧ j ≤ i ∧ jv = .int .i64 (j : Nat) ∧ Hid (d2.length = m ∧ So B blk cap sv n sc d2 wr ∧ Hpp.PI a b d2 ds ∧ Hpp.InsI sc a i j d2)) (fun jv _ => (intOf jv).toNat)
      case atStart => exact ⟨i, d1, by omega, Nat.le_refl _, rfl, hid ⟨HR.out.1, HR.out.2.1, HR.out.2.2.1, Hpp.InsI.start HR.out.2.2.2⟩⟩
      case round =>
        obtain ⟨j, d2, hj1, hj2, rfl, HR2⟩ := hrel
        by_cases hja : a < j
        · have hja' : (a : Int) < j := by omega
          obtain ⟨k, rfl⟩ : ∃ k, j = k + 1 := ⟨j - 1, by omega⟩
          obtain ⟨c1, f1, l1⟩ := HR2.out.2.1.cells (k := k + 1) (by rw [HR2.out.1]; omega)
          obtain ⟨c2, f2, l2⟩ := HR2.out.2.1.cells (k := k) (by rw [HR2.out.1]; omega)
          have C := hid (HR2.out.2.1.cmp hn (i := k + 1) (j := k) (by rw [HR2.out.1]; omega) (by rw [HR2.out.1]; omega))
          rw [show ((k + 1 : Nat) : Int) = (k : Int) + 1 by omega] at hja'
          have hk0 : (0 : Int) ≤ k := by omega
          have hkm : (k : Int) < m := by omega
          have hkm2 : (k : Int) + 1 < m := by omega
          have hw2 : IntKind.i64.wrap (k : Int) = k := i64_wrap_nat' (by omega)
          have HS := hid (fun q => (HR2.out.2.1.below (Drawn.below ⟨q, rfl⟩)).swap (W := wr.drewN q) (i := k + 1) (j := k) (by rw [HR2.out.1]; omega) (by rw [HR2.out.1]; omega))
          by_cases hbf : Hpp.bef sc (d2.getD (k + 1) 0) (d2.getD k 0)
          · have hcf : Hpp.cf sc (d2.getD (k + 1) 0) (d2.getD k 0) < 0 := (Hpp.cf_lt _ _ _).2 hbf
            have HN := hid (HR2.out.2.2.2.step (by omega) hj2 (by rw [HR2.out.1]; omega) hbf)
            have HP := hid (show Hpp.PI a b (Hpp.swp d2 (k + 1) k) ds from (Hpp.PI.swp (by omega) (by omega) (by rw [HR2.out.1]; exact hb)).trans HR2.out.2.2.1)
            generalize Hpp.cf sc (d2.getD (k + 1) 0) (d2.getD k 0) = r at *
            generalize d2.getD (k + 1) 0 = x at *
            generalize d2.getD k 0 = y at *
            clear hbf
            go_wp2_with (fail)
            go_quiet ((go_at_call 46; exact Calls.quiet_of (C.out _ ⟨_, rfl⟩)))
            go_wp2_with (fail)
            have hkk : ¬ k + 1 = k := by omega
            have hkk2 : ¬ k = k + 1 := by omega
            go_region
            all_goals
              have HS2 := hid (HS.out (nq + 1))
              go_wp2
              go_roundw
              case rel => exact ⟨k, _, by omega, by omega, rfl, hid ⟨by rw [Hpp.swp_len]; exact HR2.out.1, HS2.out, HP.out, HN.out⟩⟩
              case measure => simp only [intOf]; omega
          · have hcf : ¬ Hpp.cf sc (d2.getD (k + 1) 0) (d2.getD k 0) < 0 := fun h => hbf ((Hpp.cf_lt _ _ _).1 h)
            have HN := hid (HR2.out.2.2.2.done (.inr (Hpp.of_not (fun e => by have := Hpp.nd_inj HR2.out.2.1.nd (by rw [HR2.out.1]; omega) (by rw [HR2.out.1]; omega) e; omega) hbf)))
            generalize Hpp.cf sc (d2.getD (k + 1) 0) (d2.getD k 0) = r at *
            generalize d2.getD (k + 1) 0 = x at *
            generalize d2.getD k 0 = y at *
            clear hbf HS
            go_wp2_with (fail)
            go_quiet ((go_at_call 46; exact Calls.quiet_of (C.out _ ⟨_, rfl⟩)))
            have HF := hid (HR2.out.2.1.below (Drawn.below ⟨nq, rfl⟩))
            go_wp2
            go_roundw
            case rel => exact ⟨i + 1, d2, by omega, .inl (by omega), by go_num, hid ⟨HR2.out.1, HF.out, HR2.out.2.2.1, HN.out⟩⟩
            case measure => simp only [intOf]; omega
        · have hja' : ¬ (a : Int) < j := by omega
          obtain rfl : j = a := by omega
          have HO := hid (show d2.length = m ∧ So B blk cap sv n sc d2 wr ∧ Hpp.PI j b d2 ds ∧ Hpp.Sin sc j (i + 1) d2 from ⟨HR2.out.1, HR2.out.2.1, HR2.out.2.2.1, HR2.out.2.2.2.done (.inl rfl)⟩)
          clear hja
          go_wp2_with (fail)
          go_quiet (fail)
          have HF := hid (HO.out.2.1.below (Drawn.below ⟨nq, rfl⟩))
          go_wp2
          go_roundw
          case rel => exact ⟨i + 1, d2, by omega, .inl (by omega), by go_num, hid ⟨HO.out.1, HF.out, HO.out.2.2.1, HO.out.2.2.2⟩⟩
          case measure => simp only [intOf]; omega
    · have hge : ¬ (i : Int) < b := by omega
      have HO := hid (show InsOut B blk cap sv n sc ds a b wr from ⟨d1, HR.out.2.1, HR.out.2.2.1, by
        rcases hi2 with h | h
        · obtain rfl : i = b := by omega
          exact HR.out.2.2.2
        · exact Hpp.Sin.nil _ _ _ _ (by omega)⟩)
      go_wp2
      go_end0
      exact ⟨rfl, HO.out⟩
end Go.Proofs.Ytjbnkkjihcoojaa
