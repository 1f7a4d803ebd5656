/- Push, Pop, Remove. -/
import Derived.Test.YtjbnkkjihcoojaaHx
namespace Go.Proofs.Ytjbnkkjihcoojaa
open Go.RowKit Go.Maps
set_option linter.unusedVariables false
set_option maxRecDepth 100000

theorem HsL.out {M : Nat → Prop} {hb n : Nat} {sv pv lv : Value} {sc : List Int} {K L : List Nat} {W w' : World} (h : HsL (Qm M W) hb sv pv lv n sc K W w') (hn : n ≤ 1048576) (hp : K.Perm L) (hs : Hpp.Srt sc L) (hd : ∀ u, u < n → 0 ≤ sc.getD u 0 ∧ sc.getD u 0 ≤ 1152921504606846976) : HxO M hb n sc L W w' := by
  obtain ⟨vs, ⟨lv', pl, h1, h2, h3, h4⟩, h5, h6⟩ := h
  exact HxO.of h1 h3 ⟨hn, h2, h5.trans hp, h6, hs, hd⟩
theorem HsL.on {Q : Nat → Prop} {hb : Nat} {sv pv lv : Value} {n : Nat} {sc : List Int} {L : List Nat} {W w w' : World} (h : HsL Q hb sv pv lv n sc L w w') (hf : Fq Q W w) : HsL Q hb sv pv lv n sc L W w' := by
  obtain ⟨vs, h1, h2, h3⟩ := h
  exact ⟨vs, h1.on hf, h2, h3⟩
theorem i64_wrap_nat {u : Nat} (h : u < 1048576) : IntKind.i64.wrap (u : Int) = u := by
  simp [IntKind.wrap, IntKind.bits, IntKind.signed]; omega
theorem push16_no {M : Nat → Prop} {hb n : Nat} {sc : List Int} {L : List Nat} {W : World} (H : Hx M hb n sc L W) (v : Int) (hv : v < 1 ∨ (n : Int) < v) :
    Calls Try.prog 16 #[.pointer (some ⟨hb, 0, none⟩), .int .i64 v] W fun e w' => e = .returned (.int .i64 2) ∧ w' = W := by
  have C := hid (wrong39_no H v hv)
  clear H hv
  go_enter Try.func16, Try.ntmps16
  go_wp2_with (go_at_call 39; refine C.out.mono ?_; rintro e w4 ⟨rfl, hw4⟩; rw [hw4]; clear hw4)
  go_ret
  exact ⟨rfl, rfl⟩
theorem push16_in {M : Nat → Prop} {hb n : Nat} {sc : List Int} {L : List Nat} {W : World} (H : Hx M hb n sc L W) {u : Nat} (hu : u < n) (hm : u ∈ L) :
    Calls Try.prog 16 #[.pointer (some ⟨hb, 0, none⟩), .int .i64 ((u : Int) + 1)] W fun e w' => e = .returned (.int .i64 6) ∧ w' = W := by
  have C := hid (wrong39_ok H hu)
  have C2 := hid (has22_ok H hu)
  rw [decide_eq_true hm] at C2
  clear H hm
  go_enter Try.func16, Try.ntmps16
  go_wp2_with (first
    | (go_at_call 39; refine C.out.mono ?_; rintro e w4 ⟨rfl, hw4⟩; rw [hw4]; clear hw4)
    | (go_at_call 22; refine C2.out.mono ?_; rintro e w4 ⟨rfl, hw4⟩; rw [hw4]; clear hw4))
  go_ret
  exact ⟨rfl, rfl⟩
theorem push16_ok {M : Nat → Prop} {hb n : Nat} {sc : List Int} {L : List Nat} {W : World} (H : Hx M hb n sc L W) {u : Nat} (hu : u < n) (hm : u ∉ L) :
    Calls Try.prog 16 #[.pointer (some ⟨hb, 0, none⟩), .int .i64 ((u : Int) + 1)] W fun e w' => e = .returned (.int .i64 0) ∧ HxO M hb n sc (Hpp.ins sc u L) W w' := by
  have C := hid (wrong39_ok H hu)
  have C2 := hid (has22_ok H hu)
  rw [decide_eq_false hm] at C2
  obtain ⟨sv, pv, lv, vs, pl, h1, h2⟩ := H
  have hmv : u ∉ vs := fun e => hm (h2.pm.mem_iff.1 e)
  have hlt : vs.length < 1048576 := by
    have := nodup_len n (u :: vs) (List.nodup_cons.2 ⟨hmv, h2.pls.nodup⟩) (fun w hw => by
      rcases List.mem_cons.1 hw with rfl | hw
      · exact hu
      · exact h2.pls.lt hw)
    have h3 := h2.mx
    simp at this
    omega
  have C3 := hid (push40 h1 h2.pls h2.mx hlt h2.ho hu hmv)
  have HG := hid h2
  clear h1 h2 hmv hlt
  go_enter Try.func16, Try.ntmps16
  go_wp2_with (first
    | (go_at_call 39; refine C.out.mono ?_; rintro e w4 ⟨rfl, hw4⟩; rw [hw4]; clear hw4)
    | (go_at_call 22; refine C2.out.mono ?_; rintro e w4 ⟨rfl, hw4⟩; rw [hw4]; clear hw4)
    | (go_at_call 40; refine C3.out.mono ?_; rintro e w4 ⟨rfl, h4⟩; have H4 := hid h4; clear h4))
  go_ret
  exact ⟨rfl, H4.out.out HG.out.mx ((HG.out.pm.cons u).trans (Hpp.ins_perm sc u L).symm) (Hpp.ins_srt HG.out.srt hm) HG.out.bd⟩
theorem remove18_no {M : Nat → Prop} {hb n : Nat} {sc : List Int} {L : List Nat} {W : World} (H : Hx M hb n sc L W) (v : Int) (hv : v < 1 ∨ (n : Int) < v) :
    Calls Try.prog 18 #[.pointer (some ⟨hb, 0, none⟩), .int .i64 v] W fun e w' => e = .returned (.int .i64 2) ∧ w' = W := by
  have C := hid (wrong39_no H v hv)
  clear H hv
  go_enter Try.func18, Try.ntmps18
  go_wp2_with (go_at_call 39; refine C.out.mono ?_; rintro e w4 ⟨rfl, hw4⟩; rw [hw4]; clear hw4)
  go_ret
  exact ⟨rfl, rfl⟩
theorem remove18_out {M : Nat → Prop} {hb n : Nat} {sc : List Int} {L : List Nat} {W : World} (H : Hx M hb n sc L W) {u : Nat} (hu : u < n) (hm : u ∉ L) :
    Calls Try.prog 18 #[.pointer (some ⟨hb, 0, none⟩), .int .i64 ((u : Int) + 1)] W fun e w' => e = .returned (.int .i64 5) ∧ w' = W := by
  have C := hid (wrong39_ok H hu)
  have C2 := hid (has22_ok H hu)
  rw [decide_eq_false hm] at C2
  clear H hm
  go_enter Try.func18, Try.ntmps18
  go_wp2_with (first
    | (go_at_call 39; refine C.out.mono ?_; rintro e w4 ⟨rfl, hw4⟩; rw [hw4]; clear hw4)
    | (go_at_call 22; refine C2.out.mono ?_; rintro e w4 ⟨rfl, hw4⟩; rw [hw4]; clear hw4))
  go_ret
  exact ⟨rfl, rfl⟩
theorem remove18_ok {M : Nat → Prop} {hb n : Nat} {sc : List Int} {L : List Nat} {W : World} (H : Hx M hb n sc L W) {u : Nat} (hu : u < n) (hm : u ∈ L) :
    Calls Try.prog 18 #[.pointer (some ⟨hb, 0, none⟩), .int .i64 ((u : Int) + 1)] W fun e w' => e = .returned (.int .i64 0) ∧ HxO M hb n sc (L.erase u) W w' := by
  have C := hid (wrong39_ok H hu)
  have C2 := hid (has22_ok H hu)
  rw [decide_eq_true hm] at C2
  obtain ⟨sv, pv, lv, vs, pl, h1, h2⟩ := H
  have hmv : u ∈ vs := h2.pm.mem_iff.2 hm
  obtain ⟨k, hk, hkv⟩ := List.getElem_of_mem hmv
  have hkd : vs.getD k 0 = u := by rw [Hpp.getD_el vs hk]; exact hkv
  obtain ⟨m, hml⟩ : ∃ m, vs.length = m + 1 := ⟨vs.length - 1, by omega⟩
  have hln := h2.len
  have hmx := h2.mx
  have C3 := hid (fun W1 (hb1 : Below W.heap.size W W1) => (remove42 (h1.below hb1) h2.pls h2.mx hml (by omega) h2.ho (i := k) (by omega)).mono fun e w' h => (show e = _ ∧ HsL (Qm M W) hb sv pv lv n sc (vs.erase (vs.getD k 0)) W w' from ⟨h.1, h.2.on (Fq.of_below hb1)⟩))
  rw [hkd] at C3
  obtain ⟨gp, cp, rfl, pc, pz⟩ := h1.pat (by omega)
  have c2 := row_cell h1.blk 2
  have pu := pc u hu
  rw [show pl.getD u 0 = (k : Int) by rw [← hkd]; exact (h2.pls.at_ k hk).2] at pu
  have hu' : (u : Int) < n := by omega
  have hu0 : (0 : Int) ≤ u := by omega
  have hw2 : IntKind.i64.wrap (u : Int) = u := i64_wrap_nat (by omega)
  have hu2 : ¬ (n : Int) ≤ u := by omega
  have HG := hid h2
  clear h1 h2 hmv hkv hkd pc pz
  go_enter Try.func18, Try.ntmps18
  go_wp2_with (first
    | (go_at_call 39; refine C.out.mono ?_; rintro e w4 ⟨rfl, hw4⟩; rw [hw4]; clear hw4)
    | (go_at_call 22; refine C2.out.mono ?_; rintro e w4 ⟨rfl, hw4⟩; rw [hw4]; clear hw4)
    | fail)
  go_region_with (go_at_call 42; refine (C3.out _ (Below.refl _ _).drew).mono ?_; rintro e w4 ⟨rfl, h4⟩; have H4 := hid h4; clear h4)
  go_wp2
  go_ret
  exact ⟨rfl, H4.out.out HG.out.mx (HG.out.pm.erase u) (HG.out.srt.erase u) HG.out.bd⟩
theorem as3v (x : Value) (W : World) : (Instr.typeAssert (.iface 3 x) 20 3 true).run Try.prog W = .ok (.tuple #[x, .bool true]) W := by kernel_rfl
theorem pop17_no {M : Nat → Prop} {hb n : Nat} {sc : List Int} {W : World} (H : Hx M hb n sc [] W) :
    Calls Try.prog 17 #[.pointer (some ⟨hb, 0, none⟩)] W fun e w' => e = .returned (.tuple #[.int .i64 0, .bool false]) ∧ w' = W := by
  have C := hid (size21 H)
  rw [show ((([] : List Nat).length : Nat) : Int) = 0 from rfl] at C
  clear H
  go_enter Try.func17, Try.ntmps17
  go_wp2_with (go_at_call 21; refine C.out.mono ?_; rintro e w4 ⟨rfl, hw4⟩; rw [hw4]; clear hw4)
  go_ret2
  exact ⟨rfl, rfl⟩
theorem pop17_ok {M : Nat → Prop} {hb n : Nat} {sc : List Int} {u : Nat} {L : List Nat} {W : World} (H : Hx M hb n sc (u :: L) W) :
    Calls Try.prog 17 #[.pointer (some ⟨hb, 0, none⟩)] W fun e w' => e = .returned (.tuple #[.int .i64 ((u : Int) + 1), .bool true]) ∧ HxO M hb n sc L W w' := by
  have C := hid (size21 H)
  have has := as3v
  obtain ⟨sv, pv, lv, vs, pl, h1, h2⟩ := H
  have hlen : vs.length = L.length + 1 := h2.pm.length_eq
  have hln := h2.len
  have hmx := h2.mx
  have C3 := hid (pop41 h1 h2.pls h2.mx hlen (by omega) h2.ho)
  rw [Hpp.top_eq h2.ho h2.srt h2.pm rfl (by omega)] at C3
  have hn0 : ((((u :: L).length : Nat) : Int) == 0) = false := by simp; omega
  have HG := hid h2
  have HP := hid (show (vs.erase u).Perm L from by
    have := h2.pm.erase u
    rwa [List.erase_cons_head] at this)
  have HSR := hid (List.pairwise_cons.1 h2.srt).2
  generalize (u :: L).length = k at *
  clear h1 h2 hlen hln
  go_enter Try.func17, Try.ntmps17
  go_wp2_with (first
    | (go_at_call 21; refine C.out.mono ?_; rintro e w4 ⟨rfl, hw4⟩; rw [hw4]; clear hw4)
    | (go_at_call 41; refine C3.out.mono ?_; rintro e w4 ⟨rfl, h4⟩; have H4 := hid h4; clear h4))
  go_ret2
  exact ⟨rfl, H4.out.out HG.out.mx HP.out HSR.out HG.out.bd⟩
end Go.Proofs.Ytjbnkkjihcoojaa
