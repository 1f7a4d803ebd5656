/- move: variables to the end, one behind the other. -/
import Derived.Test.YtjnifadfcnpdoaaQuX
namespace Go.Proofs.Ytjnifadfcnpdoaa.Qp
def mvs (L g : List Nat) : List Nat := g.foldl (fun A v => A.erase v ++ [v]) L
def sts (st : List Int) (s : Int) (g : List Nat) : List Int := g.foldl (fun t v => t.set v s) st
theorem take_snoc (g : List Nat) {k : Nat} (h : k < g.length) : g.take (k + 1) = g.take k ++ [g.getD k 0] := by
  rw [List.take_succ_eq_append_getElem h, List.getD_eq_getElem?_getD, List.getElem?_eq_getElem h]; rfl
theorem mvs_snoc (L g : List Nat) (v : Nat) : mvs L (g ++ [v]) = (mvs L g).erase v ++ [v] := by simp [mvs]
theorem sts_snoc (st : List Int) (s : Int) (g : List Nat) (v : Nat) : sts st s (g ++ [v]) = (sts st s g).set v s := by simp [sts]
theorem mvs_mem {L : List Nat} {x : Nat} (hx : x ∈ L) : ∀ (g : List Nat), x ∈ mvs L g := by
  intro g
  induction g generalizing L with
  | nil => exact hx
  | cons v g ih =>
    refine ih (L := L.erase v ++ [v]) ?_
    by_cases e : x = v
    · subst e; simp
    · exact List.mem_append.2 (.inl ((List.mem_erase_of_ne e).2 hx))
end Go.Proofs.Ytjnifadfcnpdoaa.Qp
namespace Go.Proofs.Ytjnifadfcnpdoaa
open Go.RowKit Go.Maps
set_option linter.unusedVariables false
set_option maxRecDepth 100000

theorem Qx.mono {A : Adr} {n : Nat} {K K' : Int} {L : List Nat} {st : List Int} {W : World} (H : Qx A n K L st W) (hk : K ≤ K') (hk' : K' ≤ 4611686018427387904) : Qx A n K' L st W := by
  obtain ⟨ah, bh, rk, lk, h1, h2⟩ := H
  exact ⟨ah, bh, rk, lk, h1, h2.mx, h2.ch, h2.nd, h2.rg, h2.rs, fun x => by have := h2.rb x; omega, fun x => by have := h2.sb x; omega, h2.lk, hk'⟩
theorem Qx.setS {A : Adr} {n : Nat} {K : Int} {L : List Nat} {st : List Int} {W : World} (H : Qx A n K L st W) {v : Nat} (hv : v ≤ n) {s : Int} (h1 : 0 ≤ s) (h2 : s ≤ K) :
    Qx A n K L (st.set v s) (W.setCell ⟨A.gs, v, none⟩ (.int .i64 s)) ∧ Fa A W (W.setCell ⟨A.gs, v, none⟩ (.int .i64 s)) := by
  obtain ⟨ah, bh, rk, lk, k1, k2⟩ := H
  have hl := k1.len
  obtain ⟨q1, q2⟩ := k1.setS v s
  refine ⟨⟨ah, bh, rk, lk, q1, k2.mx, k2.ch, k2.nd, k2.rg, k2.rs, k2.rb, fun x => ?_, k2.lk, k2.kb⟩, q2⟩
  rw [Qp.setI _ _ _ (by omega)]
  split
  · omega
  · exact k2.sb x
theorem Qx.cells {A : Adr} {n : Nat} {K : Int} {L : List Nat} {st : List Int} {W : World} (H : Qx A n K L st W) : W.cell? ⟨A.qb, 3, none⟩ = some (.slice (some ⟨A.gs, 0, none⟩) (n + 1) A.cs) ∧ ∀ x, x ≤ n → W.cell? ⟨A.gs, x, none⟩ = some (.int .i64 (st.getD x 0)) ∧ W.frozen? ⟨A.gs, x, none⟩ = false := by
  obtain ⟨ah, bh, rk, lk, k1, k2⟩ := H
  refine ⟨row_cell k1.blk 3, fun x hx => ?_⟩
  obtain ⟨a, b⟩ := own_cell k1.sts (k := x) (by omega)
  rw [iss_at (by have := k1.len; omega)] at a
  exact ⟨a, b⟩
theorem Qx.rg {A : Adr} {n : Nat} {K : Int} {L : List Nat} {st : List Int} {W : World} (H : Qx A n K L st W) : (∀ v ∈ L, 1 ≤ v ∧ v ≤ n) ∧ L.Nodup ∧ n ≤ 1048576 ∧ K ≤ 4611686018427387904 ∧ (∀ x, 0 ≤ st.getD x 0 ∧ st.getD x 0 ≤ K) ∧ st.length = n + 1 := by
  obtain ⟨ah, bh, rk, lk, k1, k2⟩ := H
  exact ⟨k2.rg, k2.nd, k2.mx, k2.kb, k2.sb, k1.len.2.2.2⟩
theorem Qx.last {A : Adr} {n : Nat} {K : Int} {L : List Nat} {st : List Int} {W : World} (H : Qx A n K L st W) :
    Calls Try.prog 34 #[.pointer (some ⟨A.qb, 0, none⟩)] W fun e w' => e = .returned (.int .i64 ((L.getLastD 0 : Nat) : Int)) ∧ w' = W := by
  obtain ⟨ah, bh, rk, lk, k1, k2⟩ := H
  have := last34 k1 (by omega)
  rw [k2.ch.last] at this
  exact this
theorem meas {k t : Nat} (h : k < t) : t - ((k : Int) + 1).toNat < t - (k : Int).toNat := by omega
/-- A row of naturals that is not the queue's. -/
def Nrow (A : Adr) (W : World) (o : Option Addr) (c : Nat) (g : List Nat) : Prop := W.ownsRow 0 3 1 (.slice o g.length c) g.length (inn g) ∧ ∀ b, (Value.slice o g.length c).ownBlock = some b → ¬ A.own b
theorem Nrow.keep {A : Adr} {W W' : World} {o : Option Addr} {c : Nat} {g : List Nat} (h : Nrow A W o c g) (hf : Fa A W W') : Nrow A W' o c g := ⟨own_fq h.1 hf h.2, h.2⟩
theorem Nrow.at {A : Adr} {W : World} {b c : Nat} {g : List Nat} (h : Nrow A W (some ⟨b, 0, none⟩) c g) {k : Nat} (hk : k < g.length) : W.cell? ⟨b, k, none⟩ = some (.int .i64 ((g.getD k 0 : Nat) : Int)) := by
  rw [(own_cell h.1 hk).1, inn_at hk]
theorem Nrow.some {A : Adr} {W : World} {o : Option Addr} {c : Nat} {g : List Nat} (h : Nrow A W o c g) (h0 : 0 < g.length) : ∃ b, o = some ⟨b, 0, none⟩ := by
  obtain ⟨b, c', cur, e, _⟩ := own_some h.1 h0
  cases e
  exact ⟨b, rfl⟩
set_option maxHeartbeats 4000000 in
theorem move31 {A : Adr} {n : Nat} {K : Int} {L : List Nat} {st : List Int} {W : World} (H : Qx A n K L st W) {o : Option Addr} {c : Nat} {g : List Nat} (hg : Nrow A W o c g) (h0 : 0 < g.length) (hk : K + 1 + g.length ≤ 4611686018427387904) (hm : ∀ v ∈ g, v ∈ L) (hK : 0 ≤ K) :
    Calls Try.prog 31 #[.pointer (some ⟨A.qb, 0, none⟩), .slice o g.length c] W fun e w' => e = .returned (.tuple #[]) ∧ Qx A n (K + 1 + g.length) (Qp.mvs L g) (Qp.sts st (st.getD (L.getLastD 0) 0 + 1) g) w' ∧ Fa A W w' := by
  obtain ⟨b, rfl⟩ := hg.some h0
  have C0 := hid (fun (w : World) (hd : Drawn W w) => (H.below hd.below).last)
  have hlast := last_lt H.rg.1
  obtain ⟨c3, cx⟩ := H.cells
  have x1 := (cx (L.getLastD 0) (by omega)).1
  have hsb := H.rg.2.2.2.2.1 (L.getLastD 0)
  have hkb := H.rg.2.2.2.1
  have hrg := H.rg.1
  have H1 := hid (H.mono (show K ≤ K + 1 by omega) (by omega))
  have HG := hid hg
  have HM := hid hm
  have HR := hid hrg
  have HK := hid (And.intro hK hk)
  generalize L.getLastD 0 = p at *
  generalize st.getD p 0 = s at *
  have hs1 : wrap64 (s + 1) = s + 1 := by unfold wrap64; omega
  have hs2 := hid (show 0 ≤ s + 1 ∧ s + 1 ≤ K + 1 by omega)
  obtain ⟨m, hmm⟩ : ∃ m, n + 1 = m := ⟨_, rfl⟩
  rw [hmm] at c3
  have hp : (p : Int) < m := by omega
  obtain ⟨t, ht⟩ : ∃ t, g.length = t := ⟨_, rfl⟩
  have HT := hid ht
  have HTB := hid (show (t : Int) ≤ 4611686018427387904 by have := HK.out; rw [ht] at this; omega)
  rw [ht]
  clear cx H hg hm hrg hsb hkb hk hlast hK
  go_enter Try.func31, Try.ntmps31
  go_wp2_with (fail)
  go_quiet ((go_at_call 34; exact Calls.quiet_of_same (C0.out _ ⟨_, rfl⟩)))
  go_wp2_with (fail)
  simp only [hs1]
  go_loopw [18] (fun i wr => ∃ k : Nat, k ≤ t ∧ i = .int .i64 (k : Nat) ∧ Hid (Qx A n (K + 1 + k) (Qp.mvs L (g.take k)) (Qp.sts st (s + 1) (g.take k)) wr ∧ Fa A W wr)) (fun i _ => t - (intOf i).toNat)
  case atStart => exact ⟨0, Nat.zero_le _, rfl, hid ⟨by
    have := fun q => H1.out.below (W' := W.drewN q) (Drawn.below ⟨q, rfl⟩)
    simpa [Qp.mvs, Qp.sts] using this _, Fq.of_below (Drawn.below ⟨_, rfl⟩)⟩⟩
  case round =>
    obtain ⟨k, hkt, rfl, HQ⟩ := hrel
    by_cases hlt : k < t
    · have hlt' : (k : Int) < t := by omega
      have hkg : k < g.length := by rw [HT.out]; exact hlt
      have hwk : wrap64 ((k : Int) + 1) = (k : Int) + 1 := by have := HTB.out; unfold wrap64; omega
      have x2 := (HG.out.keep HQ.out.2).at hkg
      have HTK := hid (Qp.take_snoc g hkg)
      have hvg : g.getD k 0 ∈ g := by rw [List.getD_eq_getElem?_getD, List.getElem?_eq_getElem hkg]; exact List.getElem_mem hkg
      have hvL := HM.out _ hvg
      have HVR := hid (HR.out _ hvL)
      have HVM := hid (Qp.mvs_mem hvL (g.take k))
      generalize g.getD k 0 = v at *
      have C1 := hid (HQ.out.1.out HVM.out)
      have HND := hid HQ.out.1.rg.2.1
      have HKB := hid (show K + 1 + (k : Int) + 1 ≤ 4611686018427387904 by have := HK.out; omega)
      clear hvg hvL
      go_wp2_with (fail)
      go_at_call 37
      refine C1.out.mono ?_
      rintro e w1 ⟨rfl, q1, f1⟩
      have C2 := hid (q1.put HKB.out (v := v) (fun h => (HND.out.mem_erase_iff.1 h).1 rfl) HVR.out.1 HVR.out.2)
      have HF1 := hid f1
      clear C1 q1 f1
      go_wp2_with (fail)
      go_at_call 24
      refine C2.out.mono ?_
      rintro e w2 ⟨rfl, q2, f2⟩
      have HN := hid (show Qx A n (K + 1 + (k + 1 : Nat)) (Qp.mvs L (g.take (k + 1))) (Qp.sts st (s + 1) (g.take (k + 1))) (w2.setCell ⟨A.gs, v, none⟩ (.int .i64 (s + 1))) ∧ Fa A W (w2.setCell ⟨A.gs, v, none⟩ (.int .i64 (s + 1))) from by
        obtain ⟨r1, r2⟩ := q2.setS (v := v) HVR.out.2 (s := s + 1) hs2.out.1 (by have := hs2.out.2; omega)
        rw [HTK.out, Qp.mvs_snoc, Qp.sts_snoc, show K + 1 + ((k + 1 : Nat) : Int) = K + 1 + (k : Int) + 1 by omega]
        exact ⟨r1, (HQ.out.2.trans (HF1.out.trans f2)).trans r2⟩)
      obtain ⟨d3, cx⟩ := q2.cells
      obtain ⟨x3, f3⟩ := cx v HVR.out.2
      rw [hmm] at d3
      have hvm : (v : Int) < m := by have := HVR.out.2; omega
      generalize (Qp.sts st (s + 1) (List.take k g)).getD v 0 = y at x3
      clear C2 q2 f2 cx HQ HF1 HND
      go_wp2_with (fail)
      simp only [hwk]
      go_roundw
      case rel => exact ⟨k + 1, by omega, by go_num, HN⟩
      case measure => simp only [intOf]; exact meas hlt
    · have hge : ¬ (k : Int) < t := by omega
      have HO := hid (show Qx A n (K + 1 + t) (Qp.mvs L g) (Qp.sts st (s + 1) g) wr ∧ Fa A W wr from by
        have hkt2 : k = t := by omega
        have := HQ.out
        rw [hkt2, List.take_of_length_le (by rw [HT.out]; exact Nat.le_refl _)] at this
        exact this)
      clear HQ
      go_wp2
      go_end0
      exact ⟨rfl, HO.out⟩
end Go.Proofs.Ytjnifadfcnpdoaa
