/- The store's loops: are all literals its own; all values; a row reached. -/
import Derived.Test.YtkodfojccodoaaaRds
namespace Go.Proofs.Ytkodfojccodoaaa
open Go.RowKit Go.Maps
set_option linter.unusedVariables false
set_option maxRecDepth 100000

theorem meas {k t : Nat} (h : k < t) : t - ((k : Int) + 1).toNat < t - (k : Int).toNat := by omega
section
variable {A : Adr} {st : Bool} {sv : List Bool} {lt : Nat} {nt : Int} {mt : List Int} {lb : Nat} {nb : Int} {mb : List Int} {s : Int} {k : Nat} {W : World}
theorem Lw.at {b off : Nat} {l : List Int} (h : Lw W (some ⟨b, off, none⟩) l) {j : Nat} (hj : j < l.length) : W.cell? ⟨b, off + j, none⟩ = some (.int .i32 (l.getD j 0)) ∧ -2147483648 ≤ l.getD j 0 ∧ l.getD j 0 ≤ 2147483647 := by
  rcases h with h | ⟨b', off', e, h⟩
  · rw [h] at hj; simp at hj
  · cases e; exact h j hj
set_option maxHeartbeats 4000000 in
theorem hasAll35 (H : Pr A st sv lt nt mt lb nb mb s k W) {a : Option Addr} {c : Nat} {l : List Int} (h : Lw W a l) (hl : l.length ≤ maxLen) :
    Calls Try.prog 35 #[.pointer (some ⟨A.pb, 0, none⟩), .slice a l.length c] W fun e w' => e = .returned (.bool (Ph.may A.n l)) ∧ w' = W := by
  have C37 := hid (fun v => has37 H v)
  have hsh : Hid (l.length = 0) ∨ ∃ b off, a = some ⟨b, off, none⟩ := h.shape
  have HL := hid (fun (b off : Nat) (e : a = some ⟨b, off, none⟩) (j : Nat) (hj : j < l.length) => (e ▸ h : Lw W (some ⟨b, off, none⟩) l).at hj)
  have HN := hid (fun (j : Nat) (hj : j < l.length) => Ph.may_no (n := A.n) hj)
  have HA := hid (fun hh => Ph.may_all (n := A.n) (l := l) hh)
  obtain ⟨t, ht⟩ : ∃ t, l.length = t := ⟨_, rfl⟩
  have HT := hid ht
  have HTB := hid (show (t : Int) ≤ 9223372036854775807 by rw [ht] at hl; unfold maxLen at hl; omega)
  rw [ht] at hsh HL HN HA ⊢
  obtain ⟨D, hD⟩ : ∃ D, Ph.may A.n l = D := ⟨_, rfl⟩
  have HD := hid hD
  rw [hD] at HN HA ⊢
  clear H h hl ht hD
  go_enter Try.func35, Try.ntmps35
  go_wp2_with (fail)
  rcases hsh with Z | ⟨b, off, hab⟩
  case' inr => subst hab
  all_goals
    go_loopw [9] (fun i wr => ∃ k : Nat, k ≤ t ∧ i = .int .i64 (k : Nat) ∧ Hid (∀ j, j < k → 1 ≤ Ph.vr (l.getD j 0) ∧ Ph.vr (l.getD j 0) ≤ A.n) ∧ Hid (wr = W)) (fun i _ => t - (intOf i).toNat)
    case atStart => exact ⟨0, Nat.zero_le _, rfl, hid (fun j hj => by omega), hid rfl⟩
    case round =>
      obtain ⟨k, hk, rfl, HI, HW⟩ := hrel
      rw [HW.out]
      clear HW
      by_cases hlt : k < t
      · first
          | (exfalso; have := Z.out; omega)
          | (have hlt' : (k : Int) < t := by omega
             have hwk : wrap64 ((k : Int) + 1) = (k : Int) + 1 := by have := HTB.out; unfold wrap64; omega
             obtain ⟨x0, x1, x2⟩ := HL.out b off rfl k hlt
             have HNk := hid (HN.out k hlt)
             have HI2 := hid (fun (hv : 1 ≤ Ph.vr (l.getD k 0) ∧ Ph.vr (l.getD k 0) ≤ A.n) => show ∀ j, j < k + 1 → 1 ≤ Ph.vr (l.getD j 0) ∧ Ph.vr (l.getD j 0) ≤ A.n from fun j hj => by
               by_cases e : j = k
               · rw [e]; exact hv
               · exact HI.out j (by omega))
             generalize l.getD k 0 = x at *
             have C36 := hid (variable36 x W x1 x2)
             have C37x := hid (C37.out ((Ph.vr x : Nat) : Int))
             generalize Ph.vr x = v at *
             by_cases hv : 1 ≤ v ∧ v ≤ A.n
             · rw [decide_eq_true (show 1 ≤ (v : Int) ∧ (v : Int) ≤ (A.n : Int) by omega)] at C37x
               have HI3 := hid (HI2.out hv)
               clear HI2 HNk HI hv
               go_wp2_with (first
                 | (go_at_call 36; refine C36.out.mono ?_; rintro e w4 ⟨rfl, hw4⟩; rw [hw4]; clear hw4)
                 | (go_at_call 37; refine C37x.out.mono ?_; rintro e w4 ⟨rfl, hw4⟩; rw [hw4]; clear hw4))
               simp only [hwk]
               go_roundw
               case rel => exact ⟨k + 1, hlt, rfl, HI3, by first | exact hid rfl | exact hid trivial⟩
               case measure => simp only [intOf]; exact meas hlt
             · rw [decide_eq_false (show ¬ (1 ≤ (v : Int) ∧ (v : Int) ≤ (A.n : Int)) by omega)] at C37x
               have HF := hid (HNk.out hv)
               clear HI2 HNk HI hv
               go_wp2_with (first
                 | (go_at_call 36; refine C36.out.mono ?_; rintro e w4 ⟨rfl, hw4⟩; rw [hw4]; clear hw4)
                 | (go_at_call 37; refine C37x.out.mono ?_; rintro e w4 ⟨rfl, hw4⟩; rw [hw4]; clear hw4))
               go_ret
               exact ⟨by rw [HF.out]; rfl, rfl⟩)
      · have hge : ¬ (k : Int) < t := by omega
        have HF := hid (HA.out (fun j hj => HI.out j (by omega)))
        clear HI HA HN
        go_wp2
        go_ret
        exact ⟨by rw [HF.out]; rfl, rfl⟩
/-- saveAll. -/
def All (n : Nat) (x : Bool) (k : Nat) (sv sv' : List Bool) : Prop := sv'.length = n ∧ (∀ u, u < k → sv'.getD u false = x)
theorem all_done {n k : Nat} {x : Bool} {sv sv' : List Bool} (h : All n x k sv sv') (hk : n ≤ k) : sv' = List.replicate n x := by
  apply List.ext_getElem
  · simp [h.1]
  · intro u h1 h2
    have := h.2 u (by have := h.1; omega)
    rw [List.getD_eq_getElem?_getD, List.getElem?_eq_getElem h1] at this
    simpa using this
theorem all_step {n k : Nat} {x : Bool} {sv sv' : List Bool} (h : All n x k sv sv') (hk : k < n) : All n x (k + 1) sv (sv'.set k x) := by
  refine ⟨by simp [h.1], fun u hu => ?_⟩
  rw [Ph.setB _ _ _ (by rw [h.1]; exact hk)]
  split
  · rfl
  · exact h.2 u (by omega)
set_option maxHeartbeats 4000000 in
theorem saveAll25 (H : Pr A st sv lt nt mt lb nb mb s k W) (x : Bool) :
    Calls Try.prog 25 #[.pointer (some ⟨A.pb, 0, none⟩), .bool x] W fun e w' => e = .returned (.tuple #[]) ∧ Pr A st (List.replicate A.n x) lt nt mt lb nb mb s k w' ∧ Fa A W w' := by
  have c1 := H.cells.2.1
  have HMX := hid H.mx
  have H0 := hid (show ∃ sv', All A.n x 0 sv sv' ∧ Pr A st sv' lt nt mt lb nb mb s k W from ⟨sv, ⟨H.ls, fun u hu => by omega⟩, H⟩)
  obtain ⟨n, hn⟩ : ∃ n, A.n = n := ⟨_, rfl⟩
  have HN := hid hn
  rw [hn] at c1 H0
  rw [hn]
  clear H hn
  go_enter Try.func25, Try.ntmps25
  go_wp2_with (fail)
  go_loopw [10] (fun i wr => ∃ j : Nat, j ≤ n ∧ i = .int .i64 (j : Nat) ∧ Hid (∃ sv', All n x j sv sv' ∧ Pr A st sv' lt nt mt lb nb mb s k wr) ∧ Hid (Fa A W wr)) (fun i _ => n - (intOf i).toNat)
  case atStart => exact ⟨0, Nat.zero_le _, rfl, H0, hid (Fq.refl _ _)⟩
  case round =>
    obtain ⟨j, hj, rfl, HI, HF⟩ := hrel
    by_cases hlt : j < n
    · have hlt' : (j : Int) < n := by omega
      have hwk : wrap64 ((j : Int) + 1) = (j : Int) + 1 := by have := HMX.out; have := HN.out; unfold wrap64; omega
      obtain ⟨sv', a1, q1⟩ := HI.out
      have d1 := q1.cells.2.1
      obtain ⟨x1, f1⟩ := q1.atS (u := j) (by rw [HN.out]; exact hlt)
      obtain ⟨r1, r2⟩ := q1.setS (u := j) (by rw [HN.out]; exact hlt) x
      have HI2 := hid (show ∃ sv', All n x (j + 1) sv sv' ∧ Pr A st sv' lt nt mt lb nb mb s k (wr.setCell ⟨A.gs, j, none⟩ (.bool x)) from ⟨_, all_step a1 hlt, r1⟩)
      have HF2 := hid (HF.out.trans r2)
      rw [HN.out] at d1
      generalize sv'.getD j false = y at *
      clear a1 q1 r1 r2 HI HF H0 c1
      go_wp2_with (fail)
      first
        | exact ⟨⟨j + 1, hlt, rfl, HI2, HF2⟩, by simp only [intOf]; exact meas hlt⟩
        | (simp only [hwk]
           go_roundw
           case rel => exact ⟨j + 1, hlt, rfl, HI2, HF2⟩
           case measure => simp only [intOf]; exact meas hlt)
    · have hge : ¬ (j : Int) < n := by omega
      have HO := hid (show Pr A st (List.replicate n x) lt nt mt lb nb mb s k wr from by
        obtain ⟨sv', a1, q1⟩ := HI.out
        rw [all_done a1 (by omega)] at q1
        exact q1)
      clear HI H0
      go_wp2
      go_end0
      exact ⟨rfl, HO.out, HF.out⟩
theorem markOf50T (H : Pr A st sv lt nt mt lb nb mb s k W) (x : Int) (hn : 0 ≤ nt ∧ nt ≤ 4611686018427387905) :
    Calls Try.prog 50 #[.pointer (some ⟨A.pb, 2, none⟩), .int .i32 x] W fun e w' => e = .returned (.int .i64 (Ph.mark nt x)) ∧ w' = W := by
  have c1 := H.cells.2.2.2.1
  have hw : wrap64 (-nt) = -nt := by unfold wrap64; omega
  have HE1 := hid (fun (h : x < 0) => show Ph.mark nt x = -nt from if_pos h)
  have HE2 := hid (fun (h : ¬ x < 0) => show Ph.mark nt x = nt from if_neg h)
  generalize Ph.mark nt x = z at *
  clear H
  by_cases h : x < 0
  · have e := HE1.out h
    rw [e]
    clear HE1 HE2 e
    go_enter Try.func50, Try.ntmps50
    go_wp2
    go_ret
    exact ⟨rfl, rfl⟩
  · have e := HE2.out h
    rw [e]
    clear HE1 HE2 e
    go_enter Try.func50, Try.ntmps50
    go_wp2
    go_ret
    exact ⟨rfl, rfl⟩
theorem markOf50B (H : Pr A st sv lt nt mt lb nb mb s k W) (x : Int) (hn : 0 ≤ nb ∧ nb ≤ 4611686018427387905) :
    Calls Try.prog 50 #[.pointer (some ⟨A.pb, 5, none⟩), .int .i32 x] W fun e w' => e = .returned (.int .i64 (Ph.mark nb x)) ∧ w' = W := by
  have c1 := H.cells.2.2.2.2.2.2.1
  have hw : wrap64 (-nb) = -nb := by unfold wrap64; omega
  have HE1 := hid (fun (h : x < 0) => show Ph.mark nb x = -nb from if_pos h)
  have HE2 := hid (fun (h : ¬ x < 0) => show Ph.mark nb x = nb from if_neg h)
  generalize Ph.mark nb x = z at *
  clear H
  by_cases h : x < 0
  · have e := HE1.out h
    rw [e]
    clear HE1 HE2 e
    go_enter Try.func50, Try.ntmps50
    go_wp2
    go_ret
    exact ⟨rfl, rfl⟩
  · have e := HE2.out h
    rw [e]
    clear HE1 HE2 e
    go_enter Try.func50, Try.ntmps50
    go_wp2
    go_ret
    exact ⟨rfl, rfl⟩
end
end Go.Proofs.Ytkodfojccodoaaa
