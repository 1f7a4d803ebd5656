/- Bump. -/
import Derived.Test.YtjbnkkjihcoojaaHy
namespace Hpp
/-- Thirty times halved. -/
def halves (s : List Int) : List Int := s.map (· / 1073741824)
theorem halves_get (s : List Int) (k : Nat) : (halves s).getD k 0 = s.getD k 0 / 1073741824 := by
  unfold halves
  rw [List.getD_eq_getElem?_getD, List.getD_eq_getElem?_getD, List.getElem?_map]
  cases s[k]? with
  | none => rfl
  | some x => rfl
/-- .. of the first k. -/
def hvk (s : List Int) (k : Nat) : List Int := halves (s.take k) ++ s.drop k
theorem hvk_zero (s : List Int) : hvk s 0 = s := by simp [hvk, halves]
theorem hvk_all (s : List Int) (k : Nat) (h : s.length = k) : hvk s k = halves s := by subst h; simp [hvk]
theorem hvk_get (s : List Int) {k : Nat} (h : k < s.length) : (hvk s k).getD k 0 = s.getD k 0 := by
  have hl : (halves (s.take k)).length = k := by simp [halves]; omega
  unfold hvk
  rw [List.getD_eq_getElem?_getD, List.getElem?_append_right (by omega), hl, Nat.sub_self, List.getElem?_drop, Nat.add_zero, ← List.getD_eq_getElem?_getD]
theorem hvk_set (s : List Int) {k : Nat} (h : k < s.length) : (hvk s k).set k (s.getD k 0 / 1073741824) = hvk s (k + 1) := by
  have hl : (halves (s.take k)).length = k := by simp [halves]; omega
  unfold hvk
  rw [List.set_append_right _ _ (by omega), hl, Nat.sub_self, List.drop_eq_getElem_cons h, List.set_cons_zero, List.take_succ_eq_append_getElem h]
  have e : s.getD k 0 = s[k] := by rw [List.getD_eq_getElem?_getD, List.getElem?_eq_getElem h]; rfl
  rw [e]
  unfold halves
  rw [List.map_append, List.append_assoc]
  rfl
end Hpp
namespace Go.Proofs.Ytjbnkkjihcoojaa
open Go.RowKit Go.Maps
set_option linter.unusedVariables false
set_option maxRecDepth 100000

/-- A score turned. -/
theorem Hp.setS {Q : Nat → Prop} {hb gs cs : Nat} {pv lv : Value} {n : Nat} {sc : List Int} {vs : List Nat} {pl : List Int} {W : World} (H : Hp Q hb (.slice (some ⟨gs, 0, none⟩) n cs) pv lv n sc vs pl W) (u : Nat) (x : Int) :
    Hp Q hb (.slice (some ⟨gs, 0, none⟩) n cs) pv lv n (sc.set u x) vs pl (W.setCell ⟨gs, u, none⟩ (.int .i64 x)) ∧ Fq Q W (W.setCell ⟨gs, u, none⟩ (.int .i64 x)) := by
  obtain ⟨n1, n2, n3, n4, n5⟩ := H.apart
  have hgs : gs ≠ hb := fun e => n1 (by rw [e]; rfl)
  refine ⟨⟨fun g hg => by simpa [World.setCell] using H.lt g hg, H.nh, H.ns, H.np, H.nl, H.lp, ?_, ?_, ?_, ?_⟩, Fq.set W _ (H.ns gs rfl)⟩
  · rw [heap_other _ _ (fun e => hgs e.symm)]; exact H.blk
  · have := own_setc H.scs u (.int .i64 x)
    rw [iss_set] at this
    exact this
  · exact own_keep H.pls (n4 gs rfl) _
  · exact own_keep H.row (n5 gs rfl) _
set_option maxHeartbeats 2000000 in
theorem halve43 {Q : Nat → Prop} {hb : Nat} {sv pv lv : Value} {n : Nat} {sc : List Int} {vs : List Nat} {pl : List Int} {W : World} (H : Hp Q hb sv pv lv n sc vs pl W) (hp : Hpp.Pl n vs pl) (hn : n ≤ 1048576) (hml : vs.length ≤ 1048576) (hsc : ∀ u, u < n → 0 ≤ sc.getD u 0 ∧ sc.getD u 0 ≤ 2305843009213693952) :
    Calls Try.prog 43 #[.pointer (some ⟨hb, 0, none⟩)] W fun e w' => e = .returned (.tuple #[]) ∧ Hs Q hb sv pv lv n (Hpp.halves sc) vs W w' := by
  have hlen := iss_len H.scs
  have HLN := hid hlen
  have HPL := hid hp
  have HSC := hid hsc
  have HML := hid hml
  have HH := hid (show Hp Q hb sv pv lv n (Hpp.hvk sc 0) vs pl W from by rw [Hpp.hvk_zero]; exact H)
  rcases Nat.eq_zero_or_pos n with h0 | h0
  · subst h0
    obtain ⟨o, c, rfl⟩ := own_slc H.scs
    have c0 := row_cell H.blk 0
    have HE := hid (show Hpp.hvk sc 0 = Hpp.halves sc from Hpp.hvk_all sc 0 hlen)
    have C := hid (init53 (show Hq Q hb (.slice o 0 c) pv lv 0 (Hpp.halves sc) vs W W from ⟨pl, by rw [← HE.out]; exact HH.out, hp, Fq.refl _ _⟩) hn hml)
    clear H hp hsc hlen hml
    go_enter Try.func43, Try.ntmps43
    go_wp2
    go_loopw [8] (fun iv wr => iv = .int .i64 0 ∧ wr = W) (fun _ _ => 0)
    case atStart => exact ⟨rfl, rfl⟩
    case round =>
      obtain ⟨rfl, hw⟩ := hrel
      rw [hw]
      clear hw
      go_wp2_with (go_at_call 53; refine C.out.mono ?_; rintro e w4 ⟨rfl, h4⟩; have H4 := hid h4; clear h4)
      go_end0
      exact ⟨rfl, H4.out⟩
  · obtain ⟨gs, cs, cur, rfl, _⟩ := own_some H.scs h0
    have c0 := row_cell H.blk 0
    clear H hp hsc hlen hml
    go_enter Try.func43, Try.ntmps43
    go_wp2
    go_loopw [8] (fun iv wr => ∃ (k : Nat), k ≤ n ∧ iv = .int .i64 (k : Nat) ∧ Hid (Hp Q hb (.slice (some ⟨gs, 0, none⟩) n cs) pv lv n (Hpp.hvk sc k) vs pl wr ∧ Fq Q W wr)) (fun iv _ => n - (intOf iv).toNat)
    case atStart => exact ⟨0, Nat.zero_le _, rfl, hid ⟨HH.out, Fq.refl _ _⟩⟩
    case round =>
      obtain ⟨k, hk, rfl, HR⟩ := hrel
      clear c0
      have c0 := row_cell HR.out.1.blk 0
      by_cases hlt : k < n
      · have hlt' : (k : Int) < n := by omega
        have hk0 : (0 : Int) ≤ k := by omega
        obtain ⟨hS1, hS2⟩ := HR.out.1.setS k (sc.getD k 0 / 1073741824)
        rw [Hpp.hvk_set sc (by rw [HLN.out]; exact hlt)] at hS1
        have HS := hid (show _ ∧ _ from ⟨hS1, HR.out.2.trans hS2⟩)
        obtain ⟨g', c', e1, hc⟩ := Sc.at (W := wr) HR.out.1.scs hlt
        cases e1
        have ck := hc k hlt
        rw [Hpp.hvk_get sc (by rw [HLN.out]; exact hlt)] at ck
        have fk : wr.frozen? ⟨gs, k, none⟩ = false := by
          obtain ⟨g2, c2, cur2, e2, _, hg2, _⟩ := own_some HR.out.1.scs h0
          cases e2
          exact row_frozen hg2 k
        have ⟨b1, b2⟩ := HSC.out k hlt
        generalize sc.getD k 0 = x at *
        clear hS1 hS2 hc
        go_wp2
        exact ⟨⟨k + 1, by omega, by go_num, HS⟩, by simp only [intOf]; omega⟩
      · have hge : ¬ (k : Int) < n := by omega
        have HE := hid (show Hpp.hvk sc k = Hpp.halves sc from Hpp.hvk_all sc k (by rw [HLN.out]; omega))
        have C := hid (init53 (show Hq Q hb (.slice (some ⟨gs, 0, none⟩) n cs) pv lv n (Hpp.halves sc) vs W wr from ⟨pl, by rw [← HE.out]; exact HR.out.1, HPL.out, HR.out.2⟩) hn HML.out)
        clear hlt
        go_wp2_with (go_at_call 53; refine C.out.mono ?_; rintro e w4 ⟨rfl, h4⟩; have H4 := hid h4; clear h4)
        go_end0
        exact ⟨rfl, H4.out⟩
theorem bump19_no {M : Nat → Prop} {hb n : Nat} {sc : List Int} {L : List Nat} {W : World} (H : Hx M hb n sc L W) (v by_ : Int) (hv : v < 1 ∨ (n : Int) < v) :
    Calls Try.prog 19 #[.pointer (some ⟨hb, 0, none⟩), .int .i64 v, .int .i64 by_] W fun e w' => e = .returned (.tuple #[.bool false, .int .i64 2]) ∧ w' = W := by
  have C := hid (wrong39_no H v hv)
  clear H hv
  go_enter Try.func19, Try.ntmps19
  go_wp2_with (go_at_call 39; refine C.out.mono ?_; rintro e w4 ⟨rfl, hw4⟩; rw [hw4]; clear hw4)
  go_ret2
  exact ⟨rfl, rfl⟩
theorem bump19_by {M : Nat → Prop} {hb n : Nat} {sc : List Int} {L : List Nat} {W : World} (H : Hx M hb n sc L W) {u : Nat} (hu : u < n) (by_ : Int) (hv : by_ < 0 ∨ 1152921504606846976 < by_) :
    Calls Try.prog 19 #[.pointer (some ⟨hb, 0, none⟩), .int .i64 ((u : Int) + 1), .int .i64 by_] W fun e w' => e = .returned (.tuple #[.bool false, .int .i64 2]) ∧ w' = W := by
  have C := hid (wrong39_ok H hu)
  clear H
  by_cases h1 : by_ < 0
  · clear hv
    go_enter Try.func19, Try.ntmps19
    go_wp2_with (go_at_call 39; refine C.out.mono ?_; rintro e w4 ⟨rfl, hw4⟩; rw [hw4]; clear hw4)
    go_ret2
    exact ⟨rfl, rfl⟩
  · have h2 : 1152921504606846976 < by_ := by omega
    clear hv
    go_enter Try.func19, Try.ntmps19
    go_wp2_with (go_at_call 39; refine C.out.mono ?_; rintro e w4 ⟨rfl, hw4⟩; rw [hw4]; clear hw4)
    go_ret2
    exact ⟨rfl, rfl⟩
theorem Srt.set_out {sc : List Int} {L : List Nat} {u : Nat} (x : Int) (h : Hpp.Srt sc L) (hu : u ∉ L) : Hpp.Srt (sc.set u x) L := by
  refine List.Pairwise.imp_of_mem ?_ h
  intro a b ha hb hab
  exact (Hpp.bef_set x (fun e : a = u => hu (e ▸ ha)) (fun e : b = u => hu (e ▸ hb))).2 hab
theorem srt_self {sc : List Int} {L : List Nat} (h : Hpp.Srt sc L) : Hpp.srt sc L = L := Hpp.srt_uniq (Hpp.srt_srt h.nodup) h (Hpp.srt_perm sc L)
theorem HO0.set_out {sc : List Int} {vs : List Nat} {u : Nat} (x : Int) (h : HO0 sc vs) (hu : u ∉ vs) : HO0 (sc.set u x) vs := by
  intro k h1 h2 h3
  have hm : ∀ k, k < vs.length → vs.getD k 0 ≠ u := fun k hk e => hu (by rw [← e, Hpp.getD_el vs hk]; exact List.getElem_mem hk)
  unfold Hpp.Ok
  rw [Hpp.bef_set x (hm k h2) (hm _ (by omega))]
  exact h k h1 h2 h3
theorem bd_set {n u : Nat} {sc : List Int} {x : Int} (hl : sc.length = n) (hu : u < n) (hd : ∀ u, u < n → 0 ≤ sc.getD u 0 ∧ sc.getD u 0 ≤ 1152921504606846976) (hx : 0 ≤ x) {B : Int} (hB : 1152921504606846976 ≤ B) (hx2 : x ≤ B) : ∀ k, k < n → 0 ≤ (sc.set u x).getD k 0 ∧ (sc.set u x).getD k 0 ≤ B := by
  intro k hk
  rw [Hpp.setD sc u x (by omega)]
  split
  · exact ⟨hx, hx2⟩
  · have := hd k hk; omega
set_option maxHeartbeats 2000000 in
theorem bump19_up {M : Nat → Prop} {hb n : Nat} {sc : List Int} {L : List Nat} {W : World} (H : Hx M hb n sc L W) {u : Nat} (hu : u < n) (by_ : Int) (h1 : 0 ≤ by_) (h2 : by_ ≤ 1152921504606846976) (h3 : 1152921504606846976 < sc.getD u 0 + by_) :
    Calls Try.prog 19 #[.pointer (some ⟨hb, 0, none⟩), .int .i64 ((u : Int) + 1), .int .i64 by_] W fun e w' => e = .returned (.tuple #[.bool true, .int .i64 0]) ∧ HxO M hb n (Hpp.halves (sc.set u (sc.getD u 0 + by_))) (Hpp.srt (Hpp.halves (sc.set u (sc.getD u 0 + by_))) L) W w' := by
  have C := hid (wrong39_ok H hu)
  obtain ⟨sv, pv, lv, vs, pl, hA, hG⟩ := H
  obtain ⟨gs, c, rfl, hc⟩ := Sc.at (W := W) hA.scs hu
  have c0 := row_cell hA.blk 0
  have su := hc u hu
  have hl := iss_len hA.scs
  have hn := hG.mx
  have hln := hG.len
  have ⟨b1, b2⟩ := hG.bd u hu
  have fu : W.frozen? ⟨gs, u, none⟩ = false := by
    obtain ⟨g2, c2, cur2, e2, _, hg2, _⟩ := own_some hA.scs (by omega)
    cases e2
    exact row_frozen hg2 u
  have C2 := hid (show ∀ W1, Below (W.setCell ⟨gs, u, none⟩ (.int .i64 (sc.getD u 0 + by_))).heap.size (W.setCell ⟨gs, u, none⟩ (.int .i64 (sc.getD u 0 + by_))) W1 → Calls Try.prog 43 #[.pointer (some ⟨hb, 0, none⟩)] W1 fun e w' => e = .returned (.tuple #[]) ∧ HxO M hb n (Hpp.halves (sc.set u (sc.getD u 0 + by_))) (Hpp.srt (Hpp.halves (sc.set u (sc.getD u 0 + by_))) L) W w' from by
    intro W1 hb1
    obtain ⟨hS1, hS2⟩ := hA.setS u (sc.getD u 0 + by_)
    refine (halve43 (hS1.below hb1) hG.pls hG.mx (by omega) (bd_set hl hu hG.bd (by omega) (by omega) (by omega))).mono ?_
    rintro e w' ⟨rfl, vs', ⟨pl', k1, k2, k3⟩, k4, k5⟩
    refine ⟨rfl, HxO.of k1 ((hS2.trans (Fq.of_below hb1)).trans k3) ⟨hG.mx, k2, k4.trans (hG.pm.trans (Hpp.srt_perm _ _).symm), k5, Hpp.srt_srt hG.srt.nodup, fun k hk => ?_⟩⟩
    rw [Hpp.halves_get]
    have := bd_set hl hu hG.bd (x := sc.getD u 0 + by_) (by omega) (B := 2305843009213693952) (by omega) (by omega) k hk
    omega)
  have hu' : (u : Int) < n := by omega
  have hu0 : (0 : Int) ≤ u := by omega
  have hw2 : IntKind.i64.wrap (u : Int) = u := i64_wrap_nat (by omega)
  generalize Hpp.halves (sc.set u (sc.getD u 0 + by_)) = sc2 at *
  generalize sc.getD u 0 = x at *
  have hgh : gs ≠ hb := fun e => hA.apart.1 (by rw [e]; rfl)
  obtain ⟨W1, hW1⟩ : ∃ W1, W.setCell ⟨gs, u, none⟩ (.int .i64 (x + by_)) = W1 := ⟨_, rfl⟩
  have d0 : W1.cell? ⟨hb, 0, none⟩ = some (.slice (some ⟨gs, 0, none⟩) n c) := by rw [← hW1, World.cell?_setCell_other _ _ _ _ (by intro e'; simp only [Addr.mk.injEq] at e'; exact hgh e'.1)]; exact c0
  have d1 : W1.cell? ⟨gs, u, none⟩ = some (.int .i64 (x + by_)) := by rw [← hW1]; exact World.cell?_setCell_same _ _ _ su
  rw [hW1] at C2
  have C3 := hid (C2.out W1 (Below.refl _ _))
  clear hA hG hc C2 hgh
  have h2' : ¬ 1152921504606846976 < by_ := by omega
  have h1' : ¬ by_ < 0 := by omega
  have hw3 : wrap64 (x + by_) = x + by_ := by unfold wrap64; omega
  go_enter Try.func19, Try.ntmps19
  go_wp2_with (first
    | (go_at_call 39; refine C.out.mono ?_; rintro e w4 ⟨rfl, hw4⟩; rw [hw4]; clear hw4)
    | (go_at_call 43; refine C3.out.mono ?_; rintro e w4 ⟨rfl, h4⟩; have H4 := hid h4; clear h4))
  go_ret2
  exact ⟨rfl, H4.out⟩
theorem wrong39_hp {Q : Nat → Prop} {hb : Nat} {sv pv lv : Value} {n : Nat} {sc : List Int} {vs : List Nat} {pl : List Int} {W : World} (H : Hp Q hb sv pv lv n sc vs pl W) (hn : n ≤ 1048576) {u : Nat} (hu : u < n) :
    Calls Try.prog 39 #[.pointer (some ⟨hb, 0, none⟩), .int .i64 ((u : Int) + 1)] W fun e w' => e = .returned (.int .i64 0) ∧ w' = W := by
  obtain ⟨o, c, rfl⟩ := own_slc H.scs
  have c0 := row_cell H.blk 0
  have hv1 : ¬ (u : Int) + 1 < 1 := by omega
  have hv2 : ¬ (n : Int) < (u : Int) + 1 := by omega
  clear H
  go_enter Try.func39, Try.ntmps39
  go_wp2
  go_ret
  exact ⟨rfl, rfl⟩
theorem has22_hp {Q : Nat → Prop} {hb : Nat} {sv pv lv : Value} {n : Nat} {sc : List Int} {vs : List Nat} {pl : List Int} {W : World} (H : Hp Q hb sv pv lv n sc vs pl W) (hn : n ≤ 1048576) {u : Nat} (hu : u < n) :
    Calls Try.prog 22 #[.pointer (some ⟨hb, 0, none⟩), .int .i64 ((u : Int) + 1)] W fun e w' => e = .returned (.bool (pl.getD u 0 != -1)) ∧ w' = W := by
  have C := hid (wrong39_hp H hn hu)
  obtain ⟨gp, cp, rfl, pc, pz⟩ := H.pat (by omega)
  have c2 := row_cell H.blk 2
  have pu := pc u hu
  have hu' : (u : Int) < n := by omega
  have hu0 : (0 : Int) ≤ u := by omega
  generalize pl.getD u 0 = p at *
  clear H pc pz
  go_enter Try.func22, Try.ntmps22
  go_wp2_with (go_at_call 39; refine C.out.mono ?_; rintro e w4 ⟨rfl, hw4⟩; rw [hw4]; clear hw4)
  go_ret
  exact ⟨rfl, rfl⟩
set_option maxHeartbeats 2000000 in
theorem bump19_ok {M : Nat → Prop} {hb n : Nat} {sc : List Int} {L : List Nat} {W : World} (H : Hx M hb n sc L W) {u : Nat} (hu : u < n) (by_ : Int) (h1 : 0 ≤ by_) (h2 : by_ ≤ 1152921504606846976) (h3 : sc.getD u 0 + by_ ≤ 1152921504606846976) :
    Calls Try.prog 19 #[.pointer (some ⟨hb, 0, none⟩), .int .i64 ((u : Int) + 1), .int .i64 by_] W fun e w' => e = .returned (.tuple #[.bool false, .int .i64 0]) ∧ HxO M hb n (sc.set u (sc.getD u 0 + by_)) (Hpp.srt (sc.set u (sc.getD u 0 + by_)) L) W w' := by
  have C := hid (wrong39_ok H hu)
  obtain ⟨sv, pv, lv, vs, pl, hA, hG⟩ := H
  obtain ⟨gs, c, rfl, hc⟩ := Sc.at (W := W) hA.scs hu
  have c0 := row_cell hA.blk 0
  have su := hc u hu
  have hl := iss_len hA.scs
  have hn := hG.mx
  have hln := hG.len
  have ⟨b1, b2⟩ := hG.bd u hu
  have fu : W.frozen? ⟨gs, u, none⟩ = false := by
    obtain ⟨g2, c2, cur2, e2, _, hg2, _⟩ := own_some hA.scs (by omega)
    cases e2
    exact row_frozen hg2 u
  have hbd := bd_set hl hu hG.bd (x := sc.getD u 0 + by_) (by omega) (B := 1152921504606846976) (by omega) (by omega)
  obtain ⟨hS1, hS2⟩ := hA.setS u (sc.getD u 0 + by_)
  -- Has behind the store
  have HPL := hid hG.pls
  obtain ⟨gp, cp, rfl, pc, pz⟩ := hS1.pat (by omega)
  have e2 := row_cell hS1.blk 2
  have pu := pc u hu
  have hgh : gs ≠ hb := fun e => hA.apart.1 (by rw [e]; rfl)
  have hu' : (u : Int) < n := by omega
  have hu0 : (0 : Int) ≤ u := by omega
  have hw2 : IntKind.i64.wrap (u : Int) = u := i64_wrap_nat (by omega)
  have h2' : ¬ 1152921504606846976 < by_ := by omega
  have h1' : ¬ by_ < 0 := by omega
  by_cases hm : u ∈ L
  · have hmv : u ∈ vs := hG.pm.mem_iff.2 hm
    obtain ⟨k, hk, hkv⟩ := List.getElem_of_mem hmv
    have hkd : vs.getD k 0 = u := by rw [Hpp.getD_el vs hk]; exact hkv
    rw [show pl.getD u 0 = (k : Int) by rw [← hkd]; exact (hG.pls.at_ k hk).2] at pu
    have hpn : ((k : Int) != -1) = true := by simp
    have CF := hid (show ∀ W1, Below (W.setCell ⟨gs, u, none⟩ (.int .i64 (sc.getD u 0 + by_))).heap.size (W.setCell ⟨gs, u, none⟩ (.int .i64 (sc.getD u 0 + by_))) W1 → Calls Try.prog 44 #[hif hb, .int .i64 k] W1 fun e w' => e = .returned (.tuple #[]) ∧ HxO M hb n (sc.set u (sc.getD u 0 + by_)) (Hpp.srt (sc.set u (sc.getD u 0 + by_)) L) W w' from by
      intro W1 hb1
      have hdn := Hpp.Dn.fix hG.ho hk (fun j hj e => hG.pls.inj hj hk e) (sc.getD u 0 + by_)
      rw [hkd] at hdn
      refine (fix44 (W := W) ⟨pl, hS1.below hb1, hG.pls, hS2.trans (Fq.of_below hb1)⟩ hG.mx (by omega) hk hdn).mono ?_
      rintro e w' ⟨rfl, vs', ⟨pl', k1, k2, k3⟩, k4, k5⟩
      exact ⟨rfl, HxO.of k1 k3 ⟨hG.mx, k2, k4.trans (hG.pm.trans (Hpp.srt_perm _ _).symm), k5, Hpp.srt_srt hG.srt.nodup, hbd⟩⟩)
    have CH := hid (has22_hp hS1 hG.mx hu)
    rw [show (pl.getD u 0 != -1) = true by rw [show pl.getD u 0 = (k : Int) by rw [← hkd]; exact (hG.pls.at_ k hk).2]; exact hpn] at CH
    have hxx : ¬ 1152921504606846976 < sc.getD u 0 + by_ := by omega
    have hw3 : wrap64 (sc.getD u 0 + by_) = sc.getD u 0 + by_ := by unfold wrap64; omega
    generalize sc.set u (sc.getD u 0 + by_) = sc2 at *
    generalize sc.getD u 0 = x at *
    obtain ⟨W1, hW1⟩ : ∃ W1, W.setCell ⟨gs, u, none⟩ (.int .i64 (x + by_)) = W1 := ⟨_, rfl⟩
    have d0 : W1.cell? ⟨hb, 0, none⟩ = some (.slice (some ⟨gs, 0, none⟩) n c) := by rw [← hW1, World.cell?_setCell_other _ _ _ _ (by intro e'; simp only [Addr.mk.injEq] at e'; exact hgh e'.1)]; exact c0
    have d1 : W1.cell? ⟨gs, u, none⟩ = some (.int .i64 (x + by_)) := by rw [← hW1]; exact World.cell?_setCell_same _ _ _ su
    rw [hW1] at CF CH e2 pu
    clear hA hG hc hgh hS1 hS2 hbd HPL pc pz hkv hkd hmv hm
    go_enter Try.func19, Try.ntmps19
    go_wp2_with (first
      | (go_at_call 39; refine C.out.mono ?_; rintro e w4 ⟨rfl, hw4⟩; rw [hw4]; clear hw4)
      | (go_at_call 22; refine CH.out.mono ?_; rintro e w4 ⟨rfl, hw4⟩; rw [hw4]; clear hw4))
    go_region_with (go_at_call 44; refine (CF.out _ (Below.refl _ _).drew).mono ?_; rintro e w4 ⟨rfl, h4⟩; have H4 := hid h4; clear h4)
    go_wp2
    go_ret2
    exact ⟨rfl, H4.out⟩
  · have hmv : u ∉ vs := fun e => hm (hG.pm.mem_iff.1 e)
    have hpu : pl.getD u 0 = -1 := by
      by_cases h6 : pl.getD u 0 = -1
      · exact h6
      · exact absurd ((hG.pls.has hu).1 h6) hmv
    have HOut := hid (show HxO M hb n (sc.set u (sc.getD u 0 + by_)) (Hpp.srt (sc.set u (sc.getD u 0 + by_)) L) W (W.setCell ⟨gs, u, none⟩ (.int .i64 (sc.getD u 0 + by_))) from by
      have hs := Srt.set_out (sc.getD u 0 + by_) hG.srt hm
      rw [srt_self hs]
      exact HxO.of hS1 hS2 ⟨hG.mx, hG.pls, hG.pm, HO0.set_out _ hG.ho hmv, hs, hbd⟩)
    have CH := hid (has22_hp hS1 hG.mx hu)
    rw [show (pl.getD u 0 != -1) = false by rw [hpu]; rfl] at CH
    have hxx : ¬ 1152921504606846976 < sc.getD u 0 + by_ := by omega
    have hw3 : wrap64 (sc.getD u 0 + by_) = sc.getD u 0 + by_ := by unfold wrap64; omega
    generalize sc.set u (sc.getD u 0 + by_) = sc2 at *
    generalize sc.getD u 0 = x at *
    obtain ⟨W1, hW1⟩ : ∃ W1, W.setCell ⟨gs, u, none⟩ (.int .i64 (x + by_)) = W1 := ⟨_, rfl⟩
    have d0 : W1.cell? ⟨hb, 0, none⟩ = some (.slice (some ⟨gs, 0, none⟩) n c) := by rw [← hW1, World.cell?_setCell_other _ _ _ _ (by intro e'; simp only [Addr.mk.injEq] at e'; exact hgh e'.1)]; exact c0
    have d1 : W1.cell? ⟨gs, u, none⟩ = some (.int .i64 (x + by_)) := by rw [← hW1]; exact World.cell?_setCell_same _ _ _ su
    rw [hW1] at CH HOut
    clear hA hG hc hgh hS1 hS2 hbd HPL pc pz hmv hm hpu e2 pu
    go_enter Try.func19, Try.ntmps19
    go_wp2_with (first
      | (go_at_call 39; refine C.out.mono ?_; rintro e w4 ⟨rfl, hw4⟩; rw [hw4]; clear hw4)
      | (go_at_call 22; refine CH.out.mono ?_; rintro e w4 ⟨rfl, hw4⟩; rw [hw4]; clear hw4))
    go_ret2
    exact ⟨rfl, HOut.out⟩
end Go.Proofs.Ytjbnkkjihcoojaa
