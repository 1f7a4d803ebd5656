/- A step put behind a row of bytes, by the document. -/
import Derived.Test.YtmgeoeajnpnadaaRPut
namespace Bin
/-- A step's bytes. -/
def stp (s : Lra.Stp) : List Int := (if s.kind = 1 then 97 else 100) :: (num s.id ++ (row s.lits ++ ((if s.kind = 1 then [0] else []) ++ (row s.hints ++ [0]))))
end Bin
namespace Go.Proofs.Ytmgeoeajnpnadaa
open Go.RowKit
set_option linter.unusedVariables false
set_option linter.unusedSimpArgs false

theorem own_not {W : World} {n m k : Nat} {v : Value} {xs : List Value} (h : W.ownsRow n 5 1 v m xs) (hk : W.heap.size ≤ k) : v.ownBlock ≠ some k := fun e => by have := (h.lt k e).2; omega
/-- Where one stands while a step is put: the bytes so far, the step's box untouched. -/
structure At (w0 X : World) (v0 : Value) (wr : World) (v : Value) (k : Nat) (ys : List Int) : Prop where
  own : wr.ownsRow w0.heap.size 5 1 v k (ys.map (Value.int .u8))
  len : ys.length = k
  gr : Grow X wr v0 v
  bel : Below w0.heap.size w0 wr
theorem At.put {w0 X wr : World} {v0 : Value} {o : Option Addr} {k c : Nat} {ys : List Int} (h : At w0 X v0 wr (.slice o k c) k ys) (n : Int) (hk : k ≤ 900000000) (h0 : -4611686018427387903 ≤ n) (h1 : n ≤ 4611686018427387903) (q : Nat) (hq : (ys ++ Bin.num n).length = q) :
    Calls Try.prog 38 #[.slice o k c, .int .i64 n] wr fun e W' => ∃ o' c', e = .returned (.slice o' q c') ∧ At w0 X v0 W' (.slice o' q c') q (ys ++ Bin.num n) := by
  subst hq
  exact (put38 w0.heap.size o k c ys n wr h.len hk h.own h.bel.size h0 h1).mono fun e W' ⟨o', c', he, ho, hg⟩ => ⟨o', c', he, ho, rfl, h.gr.trans hg, hg.below h.bel h.own⟩
theorem At.push {w0 X wr : World} {v0 : Value} {o : Option Addr} {k c : Nat} {ys : List Int} (h : At w0 X v0 wr (.slice o k c) k ys) (x : Int) (hk : k ≤ 900000000) :
    ∃ o' c' B, (Builtin.append_ #[26, 26] 26 #[.slice o k c, .slice (some ⟨wr.heap.size, 0, none⟩) 1 1]).run Try.prog (wr.alloc (.cells #[.int .u8 x] 5)) = .ok (.slice o' (k + 1) c') B ∧ At w0 X v0 B (.slice o' (k + 1) c') (k + 1) (ys ++ [x]) := by
  obtain ⟨o3, c3, B, r3, ho3, k3, z3, s3, t3, u3, w3⟩ := push5 h.len h.own x (by omega) h.bel.size
  have hg := Grow.push (n := 0) k3 z3 s3 t3 u3 w3
  exact ⟨o3, c3, B, r3, ho3, by simp [h.len], h.gr.trans hg, hg.below h.bel h.own⟩
/-- The box's cells. -/
theorem At.cell {w0 X wr : World} {v0 v : Value} {k b i : Nat} {ys : List Int} {u : Value} (h : At w0 X v0 wr v k ys) (hb : v0.ownBlock ≠ some b) (hX : X.cell? ⟨b, i, none⟩ = some u) : wr.cell? ⟨b, i, none⟩ = some u :=
  (World.cell?_of_block (w := X) (a := ⟨b, i, none⟩) (h.gr.keep b (cell_lt hX) hb)).trans hX

set_option maxRecDepth 100000 in
set_option maxHeartbeats 8000000 in
theorem step22 (w0 : World) (o : Option Addr) (m c : Nat) (xs : List Int) (s : Lra.Stp) (a1 : Option Addr) (c1 : Nat) (a2 : Option Addr) (c2 : Nat) (W : World) (hm : xs.length = m) (hl : m + 9 * (s.lits.length + s.hints.length + 4) ≤ 800000000)
    (h : W.ownsRow w0.heap.size 5 1 (.slice o m c) m (xs.map (Value.int .u8))) (hb : Below w0.heap.size w0 W) (hv : StpV w0 a1 a2 s)
    (hi : -4611686018427387903 ≤ s.id ∧ s.id ≤ 4611686018427387903) (h1 : ∀ x ∈ s.lits, -4611686018427387903 ≤ x ∧ x ≤ 4611686018427387903) (h2 : ∀ x ∈ s.hints, -4611686018427387903 ≤ x ∧ x ≤ 4611686018427387903) :
    Calls Try.prog 22 #[.slice o m c, sval s a1 c1 a2 c2] W fun e W' => ROut w0 (xs ++ Bin.stp s) e W' := by
  obtain ⟨kd, id, ls, hs⟩ := s
  obtain ⟨p1, p2, p3, p4, p5⟩ := hv
  simp only at p1 p2 p3 p4 p5 hi h1 h2 hl
  unfold sval
  simp only
  obtain ⟨n1, hn1⟩ : ∃ n1, ls.length = n1 := ⟨_, rfl⟩
  obtain ⟨n2, hn2⟩ : ∃ n2, hs.length = n2 := ⟨_, rfl⟩
  have sh1 : Hid (n1 = 0) ∨ ∃ g off, a1 = some ⟨g, off, none⟩ := by
    rcases p1.shape with h | ⟨g, off, e⟩
    · exact .inl (hid (by omega))
    · exact .inr ⟨g, off, e⟩
  have sh2 : Hid (n2 = 0) ∨ ∃ g off, a2 = some ⟨g, off, none⟩ := by
    rcases p2.shape with h | ⟨g, off, e⟩
    · exact .inl (hid (by omega))
    · exact .inr ⟨g, off, e⟩
  rw [hn1, hn2] at hl ⊢
  obtain ⟨X, hX⟩ : ∃ X, W.alloc (.cells #[.int .u8 kd, .int .i64 id, .slice a1 n1 c1, .slice a2 n2 c2] 43) = X := ⟨_, rfl⟩
  have hXb : Below W.heap.size W X := by rw [← hX]; exact below_box _ _
  have hXr : X.heap[W.heap.size]? = some (.cells #[.int .u8 kd, .int .i64 id, .slice a1 n1 c1, .slice a2 n2 c2] 43 (0, 0)) := by rw [← hX]; exact heap_alloc_new _ _
  have x0 := row_cell hXr 0
  have x1 := row_cell hXr 1
  have x2 := row_cell hXr 2
  have x3 := row_cell hXr 3
  simp only [List.getElem?_toArray, List.getElem?_cons_zero, List.getElem?_cons_succ] at x0 x1 x2 x3
  have HA0 := hid (show At w0 X (.slice o m c) X (.slice o m c) m xs from ⟨own_below h hXb, hm, Grow.refl _ _, hb.trans (hXb.mono hb.size)⟩)
  have HNO := hid (own_not h (Nat.le_refl W.heap.size))
  have HN1 := hid hn1
  have HN2 := hid hn2
  have P1 := hid p1
  have P2 := hid p2
  have H1 := hid h1
  have H2 := hid h2
  have HI := hid hi
  have HL := hid hl
  clear p1 p2 p3 p4 p5 h1 h2 hi h hb hm hn1 hn2 hXb hXr
  by_cases hk : kd = 1
  · have hk1 : (kd == 1) = true := by simpa using hk
    have HS := hid (show Bin.stp ⟨kd, id, ls, hs⟩ = 97 :: (Bin.num id ++ (Bin.row ls ++ ([0] ++ (Bin.row hs ++ [0])))) by unfold Bin.stp; simp [hk])
    obtain ⟨o3, c3, B, r3, hA3⟩ := HA0.out.push 97 (by have := HL.out; omega)
    have HAP := hid r3
    have x1' := hA3.cell HNO.out x1
    obtain ⟨q, hq⟩ : ∃ q, ((xs ++ [97]) ++ Bin.num id).length = q := ⟨_, rfl⟩
    have C := hid (hA3.put id (by have := HL.out; omega) HI.out.1 HI.out.2 q hq)
    clear r3 hA3 hk hq
    rcases sh1 with Z1 | ⟨g1, f1, rfl⟩ <;> rcases sh2 with Z2 | ⟨g2, f2, rfl⟩
    all_goals
      go_enter Try.func22, Try.ntmps22
      go_wp2_with (first
        | (at_builtin; refine wpList_append_run rfl (.tmp 10) (.tmp 11) 26 26 rfl rfl rfl HAP.out ?_; clear HAP)
        | (go_at_call 38; refine C.out.mono ?_; clear C; rintro e W4 ⟨o4, c4, rfl, hA4⟩; have HA4 := hid hA4; clear hA4 x1'))
      go_loopw [0, 5] (fun bv iv wr => ∃ (ys : List Int) (o' : Option Addr) (k c' i : Nat), bv = .slice o' k c' ∧ iv = .int .i64 i ∧ i ≤ n1 ∧ Hid (At w0 X (.slice o m c) wr (.slice o' k c') k ys) ∧ Hid (ys = ((xs ++ [97]) ++ Bin.num id) ++ Bin.row (ls.take i))) (fun _ iv _ => n1 - (intOf iv).toNat)
      case atStart => exact ⟨_, o4, q, c4, 0, rfl, rfl, by omega, HA4, hid (by simp [Bin.row_nil])⟩
      case round =>
        clear HA4
        obtain ⟨ys, o', k, c', i, rfl, rfl, hi, HA, HE⟩ := hrel
        have HKL := hid (show k ≤ 850000000 by
          have h1 := HA.out.len
          rw [HE.out] at h1
          simp only [List.length_append, List.length_cons, List.length_nil] at h1
          have h2 := Bin.row_len (l := ls.take i) (fun x hx => H1.out x (List.mem_of_mem_take hx))
          rw [List.length_take, HN1.out] at h2
          have h3 := HA0.out.len; have h4 := HL.out; have h5 := Bin.num_len HI.out.1 HI.out.2
          omega)
        have y2 := HA.out.cell HNO.out x2
        by_cases hlt : i < n1
        · have hlt' : (i : Int) < n1 := by omega
          first
          | (exfalso; have := Z1.out; omega)
          | (obtain ⟨b', off', e, _, hc, hc1, hc2⟩ := (P1.out.below HA.out.bel).at (j := i) (by rw [HN1.out]; exact hlt)
             cases e
             have hils : i < ls.length := by rw [HN1.out]; exact hlt
             have hxx := H1.out (ls.getD i 0) (by simp [List.getD, List.getElem?_eq_getElem hils])
             have HT := hid (Bin.row_take ls i hils)
             generalize ls.getD i 0 = x at hc hc1 hc2 hxx HT
             obtain ⟨q2, hq2⟩ : ∃ q2, (ys ++ Bin.num x).length = q2 := ⟨_, rfl⟩
             have C := hid (HA.out.put x (by have := HKL.out; omega) hxx.1 hxx.2 q2 hq2)
             have HEQ := hid (show ys ++ Bin.num x = ((xs ++ [97]) ++ Bin.num id) ++ Bin.row (ls.take (i + 1)) by rw [HT.out, HE.out]; simp only [List.append_assoc])
             clear hils hxx hq2
             go_wp2_with (go_at_call 38; refine C.out.mono ?_; clear C; rintro e W5 ⟨o5, c5, rfl, hA5⟩; have HA5 := hid hA5; clear hA5)
             go_roundw
             case rel => exact ⟨_, _, _, _, i + 1, rfl, by go_num, by omega, HA5, HEQ⟩
             case measure => simp [intOf]; omega)
        · have hlt' : ¬ (i : Int) < n1 := by omega
          have HE1 := hid (show ys = ((xs ++ [97]) ++ Bin.num id) ++ Bin.row ls by rw [HE.out, List.take_of_length_le (by rw [HN1.out]; omega)])
          have y0 := HA.out.cell HNO.out x0
          obtain ⟨o6, c6, B6, r6, hA6⟩ := HA.out.push 0 (by have := HKL.out; omega)
          have HAP := hid r6
          have HA6 := hid hA6
          clear r6 hA6
          go_wp2_with (at_builtin; refine wpList_append_run rfl (.tmp 38) (.tmp 39) 26 26 rfl rfl rfl HAP.out ?_; clear HAP)
          go_loopw [0, 6] (fun bv iv wr => ∃ (zs : List Int) (o' : Option Addr) (k c' i : Nat), bv = .slice o' k c' ∧ iv = .int .i64 i ∧ i ≤ n2 ∧ Hid (At w0 X (.slice o m c) wr (.slice o' k c') k zs) ∧ Hid (zs = (ys ++ [0]) ++ Bin.row (hs.take i))) (fun _ iv _ => n2 - (intOf iv).toNat)
          case atStart => exact ⟨_, o6, k + 1, c6, 0, rfl, rfl, by omega, HA6, hid (by simp [Bin.row_nil])⟩
          case round =>
            clear y0 y2 hlt hlt'
            have HAk := HA.out.len
            have HKK := hid HAk
            clear HAk HA
            obtain ⟨zs, o7, k7, c7, j, rfl, rfl, hj, HA, HF⟩ := hrel
            have HKL2 := hid (show k7 ≤ 890000000 by
              have h1 := HA.out.len
              rw [HF.out] at h1
              simp only [List.length_append, List.length_cons, List.length_nil] at h1
              have h0 := HE1.out
              have h2 := Bin.row_len (l := hs.take j) (fun x hx => H2.out x (List.mem_of_mem_take hx))
              rw [List.length_take, HN2.out] at h2
              have h3 := HKK.out; have h4 := HL.out; have h5 := HA0.out.len; have h6 := Bin.num_len HI.out.1 HI.out.2
              have h7 := Bin.row_len H1.out
              rw [h0] at h1
              simp only [List.length_append, List.length_cons, List.length_nil] at h1
              rw [HN1.out] at h7
              omega)
            have y3 := HA.out.cell HNO.out x3
            by_cases hlt : j < n2
            · have hlt' : (j : Int) < n2 := by omega
              first
              | (exfalso; have := Z2.out; omega)
              | (obtain ⟨b', off', e, _, hc, hc1, hc2⟩ := (P2.out.below HA.out.bel).at (j := j) (by rw [HN2.out]; exact hlt)
                 cases e
                 have hils : j < hs.length := by rw [HN2.out]; exact hlt
                 have hxx := H2.out (hs.getD j 0) (by simp [List.getD, List.getElem?_eq_getElem hils])
                 have HT := hid (Bin.row_take hs j hils)
                 generalize hs.getD j 0 = x at hc hc1 hc2 hxx HT
                 obtain ⟨q2, hq2⟩ : ∃ q2, (zs ++ Bin.num x).length = q2 := ⟨_, rfl⟩
                 have C := hid (HA.out.put x (by have := HKL2.out; omega) hxx.1 hxx.2 q2 hq2)
                 have HEQ := hid (show zs ++ Bin.num x = (ys ++ [0]) ++ Bin.row (hs.take (j + 1)) by rw [HT.out, HF.out]; simp only [List.append_assoc])
                 clear hils hxx hq2
                 go_wp2_with (go_at_call 38; refine C.out.mono ?_; clear C; rintro e W5 ⟨o5, c5, rfl, hA5⟩; have HA5 := hid hA5; clear hA5)
                 go_roundw
                 case rel => exact ⟨_, _, _, _, j + 1, rfl, by go_num, by omega, HA5, HEQ⟩
                 case measure => simp [intOf]; omega)
            · have hlt' : ¬ (j : Int) < n2 := by omega
              obtain ⟨o8, c8, B8, r8, hA8⟩ := HA.out.push 0 (by have := HKL2.out; omega)
              have HAP := hid r8
              have HA8 := hid hA8
              have HEND := hid (show zs ++ [0] = xs ++ Bin.stp ⟨kd, id, ls, hs⟩ by rw [HS.out, HF.out, HE1.out, List.take_of_length_le (by rw [HN2.out]; omega)]; simp only [List.append_assoc, List.cons_append, List.nil_append])
              clear r8 hA8
              go_wp2_with (at_builtin; refine wpList_append_run rfl (.tmp 55) (.tmp 56) 26 26 rfl rfl rfl HAP.out ?_; clear HAP)
              go_ret
              unfold ROut
              rw [← HEND.out, HA8.out.len]
              exact ⟨_, _, rfl, HA8.out.own, HA8.out.bel⟩
  · have hk1 : (kd == 1) = false := by simpa using hk
    have HS := hid (show Bin.stp ⟨kd, id, ls, hs⟩ = 100 :: (Bin.num id ++ (Bin.row ls ++ ([] ++ (Bin.row hs ++ [0])))) by unfold Bin.stp; simp [hk])
    obtain ⟨o3, c3, B, r3, hA3⟩ := HA0.out.push 100 (by have := HL.out; omega)
    have HAP := hid r3
    have x1' := hA3.cell HNO.out x1
    obtain ⟨q, hq⟩ : ∃ q, ((xs ++ [100]) ++ Bin.num id).length = q := ⟨_, rfl⟩
    have C := hid (hA3.put id (by have := HL.out; omega) HI.out.1 HI.out.2 q hq)
    clear r3 hA3 hk hq
    rcases sh1 with Z1 | ⟨g1, f1, rfl⟩ <;> rcases sh2 with Z2 | ⟨g2, f2, rfl⟩
    all_goals
      go_enter Try.func22, Try.ntmps22
      go_wp2_with (first
        | (at_builtin; refine wpList_append_run rfl (.tmp 13) (.tmp 14) 26 26 rfl rfl rfl HAP.out ?_; clear HAP)
        | (go_at_call 38; refine C.out.mono ?_; clear C; rintro e W4 ⟨o4, c4, rfl, hA4⟩; have HA4 := hid hA4; clear hA4 x1'))
      go_loopw [0, 5] (fun bv iv wr => ∃ (ys : List Int) (o' : Option Addr) (k c' i : Nat), bv = .slice o' k c' ∧ iv = .int .i64 i ∧ i ≤ n1 ∧ Hid (At w0 X (.slice o m c) wr (.slice o' k c') k ys) ∧ Hid (ys = ((xs ++ [100]) ++ Bin.num id) ++ Bin.row (ls.take i))) (fun _ iv _ => n1 - (intOf iv).toNat)
      case atStart => exact ⟨_, o4, q, c4, 0, rfl, rfl, by omega, HA4, hid (by simp [Bin.row_nil])⟩
      case round =>
        clear HA4
        obtain ⟨ys, o', k, c', i, rfl, rfl, hi, HA, HE⟩ := hrel
        have HKL := hid (show k ≤ 850000000 by
          have h1 := HA.out.len
          rw [HE.out] at h1
          simp only [List.length_append, List.length_cons, List.length_nil] at h1
          have h2 := Bin.row_len (l := ls.take i) (fun x hx => H1.out x (List.mem_of_mem_take hx))
          rw [List.length_take, HN1.out] at h2
          have h3 := HA0.out.len; have h4 := HL.out; have h5 := Bin.num_len HI.out.1 HI.out.2
          omega)
        have y2 := HA.out.cell HNO.out x2
        by_cases hlt : i < n1
        · have hlt' : (i : Int) < n1 := by omega
          first
          | (exfalso; have := Z1.out; omega)
          | (obtain ⟨b', off', e, _, hc, hc1, hc2⟩ := (P1.out.below HA.out.bel).at (j := i) (by rw [HN1.out]; exact hlt)
             cases e
             have hils : i < ls.length := by rw [HN1.out]; exact hlt
             have hxx := H1.out (ls.getD i 0) (by simp [List.getD, List.getElem?_eq_getElem hils])
             have HT := hid (Bin.row_take ls i hils)
             generalize ls.getD i 0 = x at hc hc1 hc2 hxx HT
             obtain ⟨q2, hq2⟩ : ∃ q2, (ys ++ Bin.num x).length = q2 := ⟨_, rfl⟩
             have C := hid (HA.out.put x (by have := HKL.out; omega) hxx.1 hxx.2 q2 hq2)
             have HEQ := hid (show ys ++ Bin.num x = ((xs ++ [100]) ++ Bin.num id) ++ Bin.row (ls.take (i + 1)) by rw [HT.out, HE.out]; simp only [List.append_assoc])
             clear hils hxx hq2
             go_wp2_with (go_at_call 38; refine C.out.mono ?_; clear C; rintro e W5 ⟨o5, c5, rfl, hA5⟩; have HA5 := hid hA5; clear hA5)
             go_roundw
             case rel => exact ⟨_, _, _, _, i + 1, rfl, by go_num, by omega, HA5, HEQ⟩
             case measure => simp [intOf]; omega)
        · have hlt' : ¬ (i : Int) < n1 := by omega
          have HE1 := hid (show ys = ((xs ++ [100]) ++ Bin.num id) ++ Bin.row ls by rw [HE.out, List.take_of_length_le (by rw [HN1.out]; omega)])
          have y0 := HA.out.cell HNO.out x0
          go_wp2
          go_loopw [0, 6] (fun bv iv wr => ∃ (zs : List Int) (o' : Option Addr) (k c' i : Nat), bv = .slice o' k c' ∧ iv = .int .i64 i ∧ i ≤ n2 ∧ Hid (At w0 X (.slice o m c) wr (.slice o' k c') k zs) ∧ Hid (zs = ys ++ Bin.row (hs.take i))) (fun _ iv _ => n2 - (intOf iv).toNat)
          case atStart => exact ⟨ys, o', k, c', 0, rfl, rfl, by omega, HA, hid (by simp [Bin.row_nil])⟩
          case round =>
            clear y0 y2 hlt hlt'
            have HAk := HA.out.len
            have HKK := hid HAk
            clear HAk HA
            obtain ⟨zs, o7, k7, c7, j, rfl, rfl, hj, HA, HF⟩ := hrel
            have HKL2 := hid (show k7 ≤ 890000000 by
              have h1 := HA.out.len
              rw [HF.out] at h1
              simp only [List.length_append, List.length_cons, List.length_nil] at h1
              have h0 := HE1.out
              have h2 := Bin.row_len (l := hs.take j) (fun x hx => H2.out x (List.mem_of_mem_take hx))
              rw [List.length_take, HN2.out] at h2
              have h3 := HKK.out; have h4 := HL.out; have h5 := HA0.out.len; have h6 := Bin.num_len HI.out.1 HI.out.2
              have h7 := Bin.row_len H1.out
              rw [h0] at h1
              simp only [List.length_append, List.length_cons, List.length_nil] at h1
              rw [HN1.out] at h7
              omega)
            have y3 := HA.out.cell HNO.out x3
            by_cases hlt : j < n2
            · have hlt' : (j : Int) < n2 := by omega
              first
              | (exfalso; have := Z2.out; omega)
              | (obtain ⟨b', off', e, _, hc, hc1, hc2⟩ := (P2.out.below HA.out.bel).at (j := j) (by rw [HN2.out]; exact hlt)
                 cases e
                 have hils : j < hs.length := by rw [HN2.out]; exact hlt
                 have hxx := H2.out (hs.getD j 0) (by simp [List.getD, List.getElem?_eq_getElem hils])
                 have HT := hid (Bin.row_take hs j hils)
                 generalize hs.getD j 0 = x at hc hc1 hc2 hxx HT
                 obtain ⟨q2, hq2⟩ : ∃ q2, (zs ++ Bin.num x).length = q2 := ⟨_, rfl⟩
                 have C := hid (HA.out.put x (by have := HKL2.out; omega) hxx.1 hxx.2 q2 hq2)
                 have HEQ := hid (show zs ++ Bin.num x = ys ++ Bin.row (hs.take (j + 1)) by rw [HT.out, HF.out]; simp only [List.append_assoc])
                 clear hils hxx hq2
                 go_wp2_with (go_at_call 38; refine C.out.mono ?_; clear C; rintro e W5 ⟨o5, c5, rfl, hA5⟩; have HA5 := hid hA5; clear hA5)
                 go_roundw
                 case rel => exact ⟨_, _, _, _, j + 1, rfl, by go_num, by omega, HA5, HEQ⟩
                 case measure => simp [intOf]; omega)
            · have hlt' : ¬ (j : Int) < n2 := by omega
              obtain ⟨o8, c8, B8, r8, hA8⟩ := HA.out.push 0 (by have := HKL2.out; omega)
              have HAP := hid r8
              have HA8 := hid hA8
              have HEND := hid (show zs ++ [0] = xs ++ Bin.stp ⟨kd, id, ls, hs⟩ by rw [HS.out, HF.out, HE1.out, List.take_of_length_le (by rw [HN2.out]; omega)]; simp only [List.append_assoc, List.cons_append, List.nil_append])
              clear r8 hA8
              go_wp2_with (at_builtin; refine wpList_append_run rfl (.tmp 55) (.tmp 56) 26 26 rfl rfl rfl HAP.out ?_; clear HAP)
              go_ret
              unfold ROut
              rw [← HEND.out, HA8.out.len]
              exact ⟨_, _, rfl, HA8.out.own, HA8.out.bel⟩
end Go.Proofs.Ytmgeoeajnpnadaa
