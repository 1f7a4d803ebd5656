/- The document's queue in memory; what it tells. -/
import Derived.Test.YtjnifadfcnpdoaaNxt
import Derived.Test.YtjnifadfcnpdoaaQuI
namespace Go.Proofs.Ytjnifadfcnpdoaa
open Go.RowKit Go.Maps
set_option linter.unusedVariables false
set_option linter.unusedSimpArgs false
set_option maxRecDepth 100000
/-- Where it lies. -/
structure Da where
  qb : Nat
  aR : Option Addr
  cR : Nat
  gs : Nat
  cs : Nat
/-- The document's queue: a row, stamps, how often variables were moved. -/
structure Dq (D : Da) (n : Nat) (L : List Nat) (st : List Int) (mv : Nat) (W : World) : Prop where
  blk : W.heap[D.qb]? = some (.cells #[.slice D.aR n D.cR, .slice (some ⟨D.gs, 0, none⟩) (n + 1) D.cs, .int .i64 (mv : Int)] 56 (0, 0))
  rs : W.ownsRow 0 3 1 (.slice D.aR n D.cR) n (inn L)
  ss : W.ownsRow 0 2 1 (.slice (some ⟨D.gs, 0, none⟩) (n + 1) D.cs) (n + 1) (iss st)
  mx : n ≤ 1048576
section
variable {D : Da} {n : Nat} {L : List Nat} {st : List Int} {mv : Nat} {W : World}
theorem Dq.below {W' : World} (H : Dq D n L st mv W) (h : Below W.heap.size W W') : Dq D n L st mv W' :=
  ⟨(h.block _ (lt_of_blk H.blk)).trans H.blk, own_below H.rs h, own_below H.ss h, H.mx⟩
theorem Dq.len (H : Dq D n L st mv W) : L.length = n := inn_len H.rs
theorem Dq.slen (H : Dq D n L st mv W) : st.length = n + 1 := iss_len H.ss
theorem Dq.keepQ {W' : World} {Q : Nat → Prop} (H : Dq D n L st mv W) (hf : Fq Q W W') (hq : Q D.qb) (hs : Q D.gs) (hr : ∀ x, D.aR = some x → Q x.block) : Dq D n L st mv W' := by
  refine ⟨hf.block _ _ H.blk hq, own_fq H.rs hf (fun g e => ?_), own_fq H.ss hf (fun g e => by cases e; exact hs), H.mx⟩
  cases ha : D.aR with
  | none => rw [ha] at e; cases e
  | some x => rw [ha] at e; cases e; exact hr x ha
theorem Dq.shape (H : Dq D n L st mv W) : n = 0 ∨ ∃ g, D.aR = some ⟨g, 0, none⟩ := by
  rcases Nat.eq_zero_or_pos n with h0 | h0
  · exact .inl h0
  · obtain ⟨g, c', cur, e, _⟩ := own_some H.rs h0
    injection e with e
    exact .inr ⟨g, e⟩
theorem Dq.atR (H : Dq D n L st mv W) {g : Nat} (hg : D.aR = some ⟨g, 0, none⟩) {k : Nat} (hk : k < n) : W.cell? ⟨g, k, none⟩ = some (.int .i64 (L.getD k 0 : Nat)) := by
  have h := H.rs
  rw [hg] at h
  rw [(own_cell h hk).1, inn_at (by rw [H.len]; exact hk)]
theorem Dq.atS (H : Dq D n L st mv W) {k : Nat} (hk : k ≤ n) : W.cell? ⟨D.gs, k, none⟩ = some (.int .i64 (st.getD k 0)) ∧ W.frozen? ⟨D.gs, k, none⟩ = false := by
  have := own_cell H.ss (k := k) (by omega)
  exact ⟨by rw [this.1, iss_at (by rw [H.slen]; omega)], this.2⟩
theorem stamp29 (H : Dq D n L st mv W) (v : Int) :
    Calls Try.prog 29 #[.pointer (some ⟨D.qb, 0, none⟩), .int .i64 v] W fun e w' => e = .returned (.int .i64 (if 1 ≤ v ∧ v ≤ n then st.getD v.toNat 0 else 0)) ∧ w' = W := by
  have c1 : W.cell? ⟨D.qb, 1, none⟩ = some (.slice (some ⟨D.gs, 0, none⟩) (n + 1) D.cs) := row_cell H.blk 1
  obtain ⟨m, hm⟩ : ∃ m, n + 1 = m := ⟨_, rfl⟩
  have hmx := H.mx
  by_cases h1 : v < 1
  · rw [if_neg (by omega)]
    rw [hm] at c1
    clear H hm
    go_enter Try.func29, Try.ntmps29
    go_wp2
    go_ret
    exact ⟨rfl, rfl⟩
  · by_cases h2 : v ≥ (m : Int)
    · rw [if_neg (by omega)]
      rw [hm] at c1
      clear H hm
      go_enter Try.func29, Try.ntmps29
      go_wp2
      go_ret
      exact ⟨rfl, rfl⟩
    · rw [if_pos (by omega)]
      obtain ⟨u, rfl⟩ : ∃ u : Nat, v = (u : Int) := ⟨v.toNat, by omega⟩
      have x := (H.atS (k := u) (by omega)).1
      rw [Int.toNat_natCast]
      rw [hm] at c1
      have h3 : (u : Int) < m := by omega
      generalize st.getD u 0 = y at *
      clear H hm
      go_enter Try.func29, Try.ntmps29
      go_wp2
      go_ret
      exact ⟨rfl, rfl⟩
theorem meas4 {u : Nat} : (((u : Int) - 1) + 1).toNat < ((u : Int) + 1).toNat := by omega
set_option maxHeartbeats 4000000 in
theorem next27 (H : Dq D n L st mv W) (hrg : ∀ v ∈ L, 1 ≤ v ∧ v ≤ n) {a : Option Addr} {c : Nat} {bs : List Bool} (h : Bw W a bs) :
    Calls Try.prog 27 #[.pointer (some ⟨D.qb, 0, none⟩), .slice a bs.length c] W fun e w' => e = .returned (.tuple #[.int .i64 ((Qp.nxt L bs : Nat) : Int), .bool (((Qp.nxt L bs : Nat) : Int) != 0)]) ∧ w' = W := by
  have c0 : W.cell? ⟨D.qb, 0, none⟩ = some (.slice D.aR n D.cR) := row_cell H.blk 0
  have hln := H.len
  have hmx := H.mx
  have HN := hid (fun (k : Nat) (hk : k ≤ n) (h1 : ∀ j, k ≤ j → j < n → Qp.isS bs (L.getD j 0) = true) (h2 : k = 0 ∨ Qp.isS bs (L.getD (k - 1) 0) = false) => Qp.nxt_at (L := L) (bs := bs) (k := k) (by omega) (by rw [hln]; exact h1) h2)
  have HAT := hid (fun (g : Nat) (hg : D.aR = some ⟨g, 0, none⟩) (k : Nat) (hk : k < n) => H.atR hg hk)
  have HRG := hid (fun (k : Nat) (hk : k < n) => hrg (L.getD k 0) (by rw [List.getD_eq_getElem?_getD, List.getElem?_eq_getElem (by omega)]; exact List.getElem_mem _))
  have hso : Hid (n = 0) ∨ ∃ g, D.aR = some ⟨g, 0, none⟩ := H.shape
  have hsb : Hid (bs.length = 0) ∨ ∃ b off, a = some ⟨b, off, none⟩ := by
    rcases h with h | ⟨b, off, e, _⟩
    · exact .inl (by rw [h]; rfl)
    · exact .inr ⟨b, off, e⟩
  have HB := hid (fun (b off : Nat) (e : a = some ⟨b, off, none⟩) (j : Nat) (hj : j < bs.length) => show W.cell? ⟨b, off + j, none⟩ = some (.bool (bs.getD j false)) from by
    rcases h with h | ⟨b', off', e', h⟩
    · rw [h] at hj; cases hj
    · rw [e] at e'; cases e'; exact h j hj)
  have HM := hid hmx
  have hz : (n : Int) - 1 = ((n : Int) - 1) := rfl
  have hwz : wrap64 ((n : Int) - 1) = (n : Int) - 1 := by unfold wrap64; omega
  have HBL := hid (fun (y : Nat) (h1 : 1 ≤ y) => show Qp.isS bs y = (decide (y ≤ bs.length) && bs.getD (y - 1) false) from by unfold Qp.isS; rw [decide_eq_true (show y ≠ 0 by omega), Bool.true_and])
  generalize hT : bs.length = t at *
  clear H hln hrg h hmx hz hT
  go_enter Try.func27, Try.ntmps27
  go_wp2_with (fail)
  go_loopw [6] (fun i wr => ∃ (k : Nat) (z : Int), k ≤ n ∧ i = .int .i64 z ∧ Hid (z + 1 = k) ∧ Hid (∀ j, k ≤ j → j < n → Qp.isS bs (L.getD j 0) = true) ∧ wr = W) (fun i _ => (intOf i + 1).toNat)
  case atStart => exact ⟨n, _, Nat.le_refl _, rfl, hid (by first | omega | (rw [hwz]; omega)), hid (fun j h1 h2 => by omega), rfl⟩
  case round =>
    obtain ⟨k, z, hk, rfl, HZ, HS, hw⟩ := hrel
    rw [hw]
    clear hw
    rcases Nat.eq_zero_or_pos k with h0 | h0
    · have hneg : ¬ z ≥ 0 := by have := HZ.out; omega
      have HE := hid (show Qp.nxt L bs = 0 from by
        rw [HN.out k hk HS.out (.inl h0), h0]; rfl)
      clear HB HRG HAT
      go_wp2
      go_ret2
      exact ⟨by rw [HE.out]; rfl, rfl⟩
    · obtain ⟨u, rfl⟩ : ∃ u, k = u + 1 := ⟨k - 1, by omega⟩
      obtain rfl : z = (u : Int) := by have := HZ.out; omega
      rcases hso with Zo | ⟨g, hg⟩
      · exfalso; have := Zo.out; omega
      · have hu : u < n := hk
        have hu' : (u : Int) < n := by omega
        have hge : (u : Int) ≥ 0 := by omega
        have hwu : wrap64 ((u : Int) - 1) = (u : Int) - 1 := by have := HM.out; unfold wrap64; omega
        have x := HAT.out g hg u hu
        have hr := HRG.out u hu
        have HV := hid (fun (h : Qp.isS bs (L.getD u 0) = false) => HN.out (u + 1) hk HS.out (.inr (by rw [Nat.add_sub_cancel]; exact h)))
        have HV2 := hid (show (0 :: L).getD (u + 1) 0 = L.getD u 0 from rfl)
        have HS2 := hid (fun (h : Qp.isS bs (L.getD u 0) = true) => show ∀ j, u ≤ j → j < n → Qp.isS bs (L.getD j 0) = true from fun j h1 h2 => by
          by_cases e : j = u
          · rw [e]; exact h
          · exact HS.out j (by omega) h2)
        have hIS := HBL.out (L.getD u 0) hr.1
        generalize L.getD u 0 = y at *
        have HY := hid hr
        have hwy : wrap64 ((y : Int) - 1) = ((y - 1 : Nat) : Int) := by have := HM.out; have := hr.2; have := hr.1; unfold wrap64; omega
        rw [hg] at c0
        by_cases hyt : y ≤ t
        · rcases hsb with Zb | ⟨b, off, rfl⟩
          · exfalso; have := Zb.out; have := hr.1; omega
          · have w1 := HB.out b off rfl (y - 1) (by have := hr.1; omega)
            have hyt' : ¬ (y : Int) > t := by omega
            have hy1 : ((y - 1 : Nat) : Int) < t := by have := hr.1; omega
            rw [decide_eq_true hyt, Bool.true_and] at hIS
            have HIS := hid hIS
            generalize bs.getD (y - 1) false = q at *
            generalize y - 1 = p at *
            cases q
            · have HE := hid (HV.out HIS.out)
              have hne : ((y : Int) != 0) = true := by rw [bne_iff_ne]; have := HY.out.1; omega
              have HNE := hid hne
              clear HB HRG HAT HBL hIS hr hyt HN HS HS2
              go_wp2
              go_ret2
              exact ⟨by rw [HE.out, HV2.out, HNE.out]; rfl, rfl⟩
            · have HS3 := hid (HS2.out HIS.out)
              clear HB HRG HAT HBL hIS hr hyt HN HS HS2 HV
              go_wp2_with (fail)
              rw [hwu]
              exact ⟨⟨u, _, by omega, rfl, hid (by omega), HS3, by first | trivial | rfl⟩, by simp only [intOf]; exact meas4⟩
        · have hyt' : (y : Int) > t := by omega
          rw [decide_eq_false hyt, Bool.false_and] at hIS
          have HE := hid (HV.out hIS)
          have hne : ((y : Int) != 0) = true := by rw [bne_iff_ne]; have := HY.out.1; omega
          have HNE := hid hne
          clear HB HRG HAT HBL hIS hr hyt HN HS HS2
          go_wp2
          go_ret2
          exact ⟨by rw [HE.out, HV2.out, HNE.out]; rfl, rfl⟩
end
end Go.Proofs.Ytjnifadfcnpdoaa
