/- A step put behind a row of bytes, by the program. -/
import Derived.Test.YtmgeoeajnpnadaaRefW
import Derived.Deep.RegionHeld3
import Derived.Deep.RegionLaw
namespace Go.Proofs.Ytmgeoeajnpnadaa
open Go.RowKit
set_option linter.unusedVariables false
set_option linter.unusedSimpArgs false

theorem num_nought : Bin.num 0 = [0] := by
  unfold Bin.num
  rw [show Bin.code 0 = 0 from rfl, Bin.bytes7_lt (by decide)]; rfl
theorem At.num {w0 X wr : World} {v0 : Value} {o : Option Addr} {k c : Nat} {ys : List Int} (h : At w0 X v0 wr (.slice o k c) k ys) (n : Int) (hk : k ≤ 900000000) (h0 : -4611686018427387903 ≤ n) (h1 : n ≤ 4611686018427387903) (q : Nat) (hq : (ys ++ Bin.num n).length = q) :
    Calls Try.prog 34 #[.slice o k c, .int .i64 n] wr fun e W' => ∃ o' c', e = .returned (.slice o' q c') ∧ At w0 X v0 W' (.slice o' q c') q (ys ++ Bin.num n) := by
  subst hq
  exact (number34 w0.heap.size o k c ys n wr h.len hk h.own h.bel.size h0 h1).mono fun e W' ⟨o', c', he, ho, hg⟩ => ⟨o', c', he, ho, rfl, h.gr.trans hg, hg.below h.bel h.own⟩
theorem At.drew {w0 X wr : World} {v0 v : Value} {k : Nat} {ys : List Int} (h : At w0 X v0 wr v k ys) : At w0 X v0 wr.drew v k ys :=
  ⟨h.own, h.len, ⟨h.gr.os, h.gr.tape, h.gr.output, h.gr.size, h.gr.keep, h.gr.own⟩, h.bel.drew⟩
theorem step_append_run {P : Program} {w w' : World} {ops : Array Oper} {o : Oper} {a : Act} {K : Act → World → Prop} {Q : Exit → Act → World → Prop} {E : Prop} (hgd : o.guard = none) (s x : Operand) (t u : TypeId)
    (ho : o.op = .call { callee := .builtin .append, args := #[s, x], argTypes := #[t, u] }) {v xv v' : Value} (hs : a.eval s = v) (hx : a.eval x = xv)
    (hrun : (Builtin.append_ #[t, u] o.type #[v, xv]).run P w = .ok v' w') (h : K (a.put o.dst v') w') :
    if Region.wanted o (yielded ops a.tmps) = true then Oper.wp P o a w K Q else E := by
  have hw : Region.wanted o (yielded ops a.tmps) = true := by simp [Region.wanted, hgd]
  rw [if_pos hw]
  unfold Oper.wp
  simp [execOp, ho, resolve, invoke, builtin, hs, hx, hrun, Result.andThen]
  exact h

set_option maxRecDepth 100000 in
set_option maxHeartbeats 4000000 in
theorem At.row {w0 X : World} {v0 : Value} (o : Option Addr) (m c : Nat) (xs : List Int) (a : Option Addr) (n2 c2 : Nat) (ls : List Int) (W : World) (hn : ls.length = n2) (hl : m + 9 * n2 ≤ 800000000) (h : At w0 X v0 W (.slice o m c) m xs)
    (hr : Row .i32 (-2147483648) 2147483647 w0 a ls) (hx : ∀ x ∈ ls, -4611686018427387903 ≤ x ∧ x ≤ 4611686018427387903) (z : Nat) (hz : (xs ++ Bin.row ls ++ Bin.num 0).length = z) :
    Calls Try.prog 35 #[.slice o m c, .slice a n2 c2] W fun e W' => ∃ o' c', e = .returned (.slice o' z c') ∧ At w0 X v0 W' (.slice o' z c') z (xs ++ Bin.row ls ++ Bin.num 0) := by
  have HR := hid hr
  have HX := hid hx
  have HN := hid hn
  have HA := hid h
  have HZ := hid hz
  have sh : Hid (n2 = 0) ∨ ∃ g off, a = some ⟨g, off, none⟩ := by
    rcases hr.shape with h | ⟨g, off, e⟩
    · exact .inl (hid (by omega))
    · exact .inr ⟨g, off, e⟩
  clear hr hx hn h hz
  rcases sh with Z | ⟨g, off, rfl⟩
  all_goals
    go_enter Try.func35, Try.ntmps35
    go_wp2
    go_loopw [0, 6, 9] (fun bv _ iv wr => ∃ (ys : List Int) (o' : Option Addr) (k c' i : Nat), bv = .slice o' k c' ∧ iv = .int .i64 i ∧ i ≤ n2 ∧ Hid (At w0 X v0 wr (.slice o' k c') k ys) ∧ Hid (ys = xs ++ Bin.row (ls.take i))) (fun _ _ iv _ => n2 - (intOf iv).toNat)
    case atStart => exact ⟨xs, o, m, c, 0, rfl, rfl, by omega, HA, hid (by simp [Bin.row_nil])⟩
    case round =>
      obtain ⟨ys, o', k, c', i, rfl, rfl, hi, HAW, HE⟩ := hrel
      have HKL := hid (show k ≤ 900000000 by
        have h1 := HAW.out.len
        rw [HE.out, List.length_append, HA.out.len] at h1
        have h2 := Bin.row_len (l := ls.take i) (fun x hx => HX.out x (List.mem_of_mem_take hx))
        rw [List.length_take, HN.out] at h2
        omega)
      by_cases hlt : i < n2
      · have hlt' : (i : Int) < n2 := by omega
        first
        | (exfalso; have := Z.out; omega)
        | (obtain ⟨b', off', e, _, hc, hc1, hc2⟩ := (HR.out.below HAW.out.bel).at (j := i) (by rw [HN.out]; exact hlt)
           cases e
           have hils : i < ls.length := by rw [HN.out]; exact hlt
           have hxx := HX.out (ls.getD i 0) (by simp [List.getD, List.getElem?_eq_getElem hils])
           have HT := hid (Bin.row_take ls i hils)
           generalize ls.getD i 0 = x at hc hc1 hc2 hxx HT
           obtain ⟨q, hq⟩ : ∃ q, (ys ++ Bin.num x).length = q := ⟨_, rfl⟩
           have C := hid (HAW.out.num x HKL.out hxx.1 hxx.2 q hq)
           clear hq
           have HEQ := hid (show ys ++ Bin.num x = xs ++ Bin.row (ls.take (i + 1)) by rw [HT.out, HE.out, List.append_assoc])
           clear hils hxx
           go_wp2_with (go_at_call 34; refine C.out.mono ?_; clear C; rintro e W3 ⟨o3, c3, rfl, hA3⟩
                        have HA3 := hid hA3
                        clear hA3)
           go_roundw
           case rel => exact ⟨ys ++ Bin.num x, _, _, _, i + 1, rfl, by go_num, by omega, HA3, HEQ⟩
           case measure => simp [intOf]; omega)
      · have hlt' : ¬ (i : Int) < n2 := by omega
        have HEQ := hid (show ys ++ Bin.num 0 = xs ++ Bin.row ls ++ Bin.num 0 by rw [HE.out, List.take_of_length_le (by rw [HN.out]; omega)])
        have C := hid (HAW.out.num 0 HKL.out (by decide) (by decide) z (by rw [HEQ.out]; exact HZ.out))
        go_wp2_with (go_at_call 34; refine C.out.mono ?_; clear C; rintro e W3 ⟨o3, c3, rfl, hA3⟩
                     have HA3 := hid hA3
                     clear hA3)
        go_ret
        rw [← HEQ.out]
        exact ⟨_, _, rfl, HA3.out⟩

set_option maxRecDepth 100000 in
set_option maxHeartbeats 8000000 in
theorem appendStep19 (w0 : World) (o : Option Addr) (m c : Nat) (xs : List Int) (s : Lra.Stp) (a1 : Option Addr) (c1 : Nat) (a2 : Option Addr) (c2 : Nat) (W : World) (hm : xs.length = m) (hl : m + 9 * (s.lits.length + s.hints.length + 4) ≤ 800000000)
    (h : W.ownsRow w0.heap.size 5 1 (.slice o m c) m (xs.map (Value.int .u8))) (hb : Below w0.heap.size w0 W) (hv : StpV w0 a1 a2 s) (hmay : Lra.may s = true) :
    Calls Try.prog 19 #[.slice o m c, sval s a1 c1 a2 c2] W fun e W' => ROut w0 (xs ++ Bin.stp s) e W' := by
  obtain ⟨hk, hi0, h10, h2⟩ := Lra.may_fits hmay
  have hi : -4611686018427387903 ≤ s.id ∧ s.id ≤ 4611686018427387903 := by omega
  have h1 : ∀ x ∈ s.lits, -4611686018427387903 ≤ x ∧ x ≤ 4611686018427387903 := fun x hx => by have := h10 x hx; omega
  have hem : s.kind = 2 → s.lits = [] := fun h2 => by
    unfold Lra.may at hmay
    rw [if_neg (by omega), if_pos h2] at hmay
    simp only [Bool.and_eq_true] at hmay
    exact List.isEmpty_iff.1 hmay.2.1
  clear hi0 h10 hmay
  obtain ⟨kd, id, ls, hs⟩ := s
  obtain ⟨p1, p2, p3, p4, p5⟩ := hv
  simp only at p1 p2 p3 p4 p5 hi h1 h2 hl hk hem
  unfold sval
  simp only
  obtain ⟨n1, hn1⟩ : ∃ n1, ls.length = n1 := ⟨_, rfl⟩
  obtain ⟨n2, hn2⟩ : ∃ n2, hs.length = n2 := ⟨_, rfl⟩
  rw [hn1, hn2] at hl ⊢
  obtain ⟨X, hX⟩ : ∃ X, W.alloc (.cells #[.int .u8 kd, .int .i64 id, .slice a1 n1 c1, .slice a2 n2 c2] 43) = X := ⟨_, rfl⟩
  have hXb : Below W.heap.size W X := by rw [← hX]; exact below_box _ _
  have hXr : X.heap[W.heap.size]? = some (.cells #[.int .u8 kd, .int .i64 id, .slice a1 n1 c1, .slice a2 n2 c2] 43 (0, 0)) := by rw [← hX]; exact heap_alloc_new _ _
  have x0 := row_cell hXr 0
  have x1 := row_cell hXr 1
  have x2 := row_cell hXr 2
  have x3 := row_cell hXr 3
  simp only [List.getElem?_toArray, List.getElem?_cons_zero, List.getElem?_cons_succ] at x0 x1 x2 x3
  have hA0 : At w0 X (.slice o m c) X (.slice o m c) m xs := ⟨own_below h hXb, hm, Grow.refl _ _, hb.trans (hXb.mono hb.size)⟩
  have HA0 := hid hA0
  have HNO := hid (own_not h (Nat.le_refl W.heap.size))
  have HN1 := hid hn1
  have HN2 := hid hn2
  have P1 := hid p1
  have P2 := hid p2
  have H1 := hid h1
  have H2 := hid h2
  have HI := hid hi
  have HL := hid hl
  have HEM := hid hem
  have x1d : X.drew.cell? ⟨W.heap.size, 1, none⟩ = some (.int .i64 id) := x1
  clear p1 p2 p3 p4 p5 h1 h2 hi h hb hm hn1 hn2 hXb hXr hA0 hem
  rcases hk with rfl | rfl
  · have HS := hid (show Bin.stp ⟨1, id, ls, hs⟩ = 97 :: (Bin.num id ++ (Bin.row ls ++ ([0] ++ (Bin.row hs ++ [0])))) by unfold Bin.stp; simp)
    obtain ⟨zz, hzz⟩ : ∃ zz, (xs ++ Bin.stp ⟨1, id, ls, hs⟩).length = zz := ⟨_, rfl⟩
    have HZZ := hid hzz
    clear hzz
    obtain ⟨o3, c3, B, r3, hA3⟩ := HA0.out.drew.push 97 (by have := HL.out; omega)
    have HAP := hid r3
    have x1a : (X.drew.alloc (.cells #[.int .u8 97] 5)).cell? ⟨W.heap.size, 1, none⟩ = some (.int .i64 id) := by
      rw [World.cell?_of_block (w := X.drew) (a := ⟨W.heap.size, 1, none⟩) ((below_box X.drew _).block _ (cell_lt x1d))]; exact x1d
    have x1b : (X.alloc (.cells #[.int .u8 97] 5)).cell? ⟨W.heap.size, 1, none⟩ = some (.int .i64 id) := x1a
    have x1' := hA3.cell HNO.out x1
    obtain ⟨q, hq⟩ : ∃ q, ((xs ++ [97]) ++ Bin.num id).length = q := ⟨_, rfl⟩
    have C := hid (hA3.num id (by have := HL.out; omega) HI.out.1 HI.out.2 q hq)
    have HQ := hid hq
    clear r3 hA3 hq
    go_enter Try.func19, Try.ntmps19
    go_wp2
    go_region_law (first
      | (refine step_append_run rfl (.tmp 14) (.tmp 15) 26 26 (by rfl) (by rfl) (by rfl) HAP.out ?_)
      | (go_simp; go_at_call 34; refine C.out.mono ?_; clear C; rintro e W4 ⟨o4, c4, rfl, hA4⟩; have HA4 := hid hA4; clear hA4 x1'))
    all_goals
      have y2 := HA4.out.cell HNO.out x2
      have HLQ := hid (show q + 9 * n1 ≤ 800000000 - 9 * n2 by
        have h1 := HQ.out; have h2 := HA0.out.len; have h3 := HL.out; have h4 := Bin.num_len HI.out.1 HI.out.2
        simp only [List.length_append, List.length_cons, List.length_nil] at h1
        omega)
      obtain ⟨z, hz⟩ : ∃ z, (((xs ++ [97]) ++ Bin.num id) ++ Bin.row ls ++ Bin.num 0).length = z := ⟨_, rfl⟩
      have C35 := hid (At.row o4 q c4 _ a1 n1 c1 ls W4 HN1.out (by have := HLQ.out; omega) HA4.out P1.out H1.out z hz)
      have HLZ := hid (show z + 9 * n2 ≤ 800000000 by
        have h1 := Bin.row_len H1.out; have h2 := HN1.out; have h3 := HLQ.out; have h4 := HQ.out; have h5 := HL.out; have h6 := Bin.num_len (n := 0) (by decide) (by decide); have h7 := HA0.out.len; have h8 := Bin.num_len HI.out.1 HI.out.2
        simp only [List.length_append, List.length_cons, List.length_nil] at hz h4
        omega)
      clear hz x1 x1d x1a x1b x0
      go_wp2_with (first
        | (go_at_call 35; refine C35.out.mono ?_; clear C35; rintro e W5 ⟨o5, c5, rfl, hA5⟩
           have y3 := hA5.cell HNO.out x3
           have HA5 := hid hA5
           have C36 := hid (row36 w0 o5 z c5 _ a2 n2 c2 hs W5 hA5.len HN2.out HLZ.out hA5.own hA5.bel P2.out H2.out)
           clear hA5)
        | (go_at_call 36; refine C36.out.mono ?_; clear C36; intro e W6 h6
           have HEND := hid (show (((xs ++ [97]) ++ Bin.num id) ++ Bin.row ls ++ Bin.num 0) ++ Bin.row hs ++ Bin.num 0 = xs ++ Bin.stp ⟨1, id, ls, hs⟩ by rw [HS.out, num_nought]; simp only [List.append_assoc, List.cons_append, List.nil_append])
           rw [HEND.out] at h6
           obtain ⟨o6, c6, rfl, h7⟩ := h6.len HZZ.out
           have H7 := hid h7
           clear h7))
      go_ret
      unfold ROut
      rw [HZZ.out]
      exact ⟨_, _, rfl, H7.out⟩
  · have hls := HEM.out rfl
    subst hls
    have HS := hid (show Bin.stp ⟨2, id, [], hs⟩ = 100 :: (Bin.num id ++ (Bin.row hs ++ [0])) by unfold Bin.stp; simp [Bin.row_nil])
    obtain ⟨zz, hzz⟩ : ∃ zz, (xs ++ Bin.stp ⟨2, id, [], hs⟩).length = zz := ⟨_, rfl⟩
    have HZZ := hid hzz
    clear hzz
    obtain ⟨o3, c3, B, r3, hA3⟩ := HA0.out.drew.push 100 (by have := HL.out; omega)
    have HAP := hid r3
    have x1a : (X.drew.alloc (.cells #[.int .u8 100] 5)).cell? ⟨W.heap.size, 1, none⟩ = some (.int .i64 id) := by
      rw [World.cell?_of_block (w := X.drew) (a := ⟨W.heap.size, 1, none⟩) ((below_box X.drew _).block _ (cell_lt x1d))]; exact x1d
    have x1b : (X.alloc (.cells #[.int .u8 100] 5)).cell? ⟨W.heap.size, 1, none⟩ = some (.int .i64 id) := x1a
    have x1' := hA3.cell HNO.out x1
    obtain ⟨q, hq⟩ : ∃ q, ((xs ++ [100]) ++ Bin.num id).length = q := ⟨_, rfl⟩
    have C := hid (hA3.num id (by have := HL.out; omega) HI.out.1 HI.out.2 q hq)
    have HQ := hid hq
    clear r3 hA3 hq
    go_enter Try.func19, Try.ntmps19
    go_wp2
    go_region_law (first
      | (refine step_append_run rfl (.tmp 8) (.tmp 9) 26 26 (by rfl) (by rfl) (by rfl) HAP.out ?_)
      | (go_simp; go_at_call 34; refine C.out.mono ?_; clear C; rintro e W4 ⟨o4, c4, rfl, hA4⟩; have HA4 := hid hA4; clear hA4 x1'))
    all_goals
      have y3 := HA4.out.cell HNO.out x3
      have HLQ := hid (show q + 9 * n2 ≤ 800000000 by
        have h1 := HQ.out; have h2 := HA0.out.len; have h3 := HL.out; have h4 := Bin.num_len HI.out.1 HI.out.2
        simp only [List.length_append, List.length_cons, List.length_nil] at h1
        omega)
      have C36 := hid (row36 w0 o4 q c4 _ a2 n2 c2 hs W4 HA4.out.len HN2.out HLQ.out HA4.out.own HA4.out.bel P2.out H2.out)
      clear x1 x1d x1a x1b x0
      go_wp2_with (first
        | (go_at_call 36; refine C36.out.mono ?_; clear C36; intro e W6 h6
           have HEND := hid (show ((xs ++ [100]) ++ Bin.num id) ++ Bin.row hs ++ Bin.num 0 = xs ++ Bin.stp ⟨2, id, [], hs⟩ by rw [HS.out, num_nought]; simp only [List.append_assoc, List.cons_append, List.nil_append])
           rw [HEND.out] at h6
           obtain ⟨o6, c6, rfl, h7⟩ := h6.len HZZ.out
           have H7 := hid h7
           clear h7))
      go_ret
      unfold ROut
      rw [HZZ.out]
      exact ⟨_, _, rfl, H7.out⟩
end Go.Proofs.Ytmgeoeajnpnadaa
