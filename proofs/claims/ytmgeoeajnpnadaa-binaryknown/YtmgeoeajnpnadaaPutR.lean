/- A row of numbers put behind a row of bytes. -/
import Derived.Test.YtmgeoeajnpnadaaPut
namespace Bin
def row (l : List Int) : List Int := l.flatMap num
theorem row_nil : row [] = [] := rfl
theorem row_take (l : List Int) (k : Nat) (h : k < l.length) : row (l.take (k + 1)) = row (l.take k) ++ num (l.getD k 0) := by
  rw [List.take_succ_eq_append_getElem h]
  unfold row
  rw [List.flatMap_append]
  simp [List.getD, List.getElem?_eq_getElem h]
theorem row_len {l : List Int} (h : ∀ x ∈ l, -4611686018427387903 ≤ x ∧ x ≤ 4611686018427387903) : (row l).length ≤ 9 * l.length := by
  induction l with
  | nil => simp [row]
  | cons x l ih =>
    have e : row (x :: l) = num x ++ row l := by simp [row]
    have h1 := num_len (h x (by simp)).1 (h x (by simp)).2
    have h2 := ih (fun y hy => h y (by simp [hy]))
    rw [e, List.length_append, List.length_cons]
    omega
end Bin
namespace Go.Proofs.Ytmgeoeajnpnadaa
open Go.RowKit
set_option linter.unusedVariables false
set_option linter.unusedSimpArgs false

/-- Bytes told, in memory behind what was there. -/
def ROut (w0 : World) (ys : List Int) (e : Ending) (W' : World) : Prop :=
  ∃ o c, e = .returned (.slice o ys.length c) ∧ W'.ownsRow w0.heap.size 5 1 (.slice o ys.length c) ys.length (ys.map (Value.int .u8)) ∧ Below w0.heap.size w0 W'
theorem ROut.len {w0 W' : World} {ys : List Int} {e : Ending} {q : Nat} (h : ROut w0 ys e W') (hq : ys.length = q) : ∃ o c, e = .returned (.slice o q c) ∧ W'.ownsRow w0.heap.size 5 1 (.slice o q c) q (ys.map (Value.int .u8)) ∧ Below w0.heap.size w0 W' := by subst hq; exact h
theorem Grow.below {w0 W W' : World} {v v' : Value} {m : Nat} {xs : List Value} (h : Grow W W' v v') (hb : Below w0.heap.size w0 W) (ho : W.ownsRow w0.heap.size 5 1 v m xs) : Below w0.heap.size w0 W' :=
  ⟨h.os.trans hb.os, h.tape.trans hb.tape, h.output.trans hb.output, Nat.le_trans hb.size h.size, fun k hk => (h.keep k (Nat.lt_of_lt_of_le hk hb.size) (fun e => by have := (ho.lt k e).1; omega)).trans (hb.block k hk)⟩
theorem num34 (w0 : World) (o : Option Addr) (m c : Nat) (xs : List Int) (n : Int) (W : World) (hm : xs.length = m) (hl : m ≤ 900000000) (h : W.ownsRow w0.heap.size 5 1 (.slice o m c) m (xs.map (Value.int .u8))) (hb : Below w0.heap.size w0 W) (h0 : -4611686018427387903 ≤ n) (h1 : n ≤ 4611686018427387903) :
    Calls Try.prog 34 #[.slice o m c, .int .i64 n] W fun e W' => ROut w0 (xs ++ Bin.num n) e W' :=
  (number34 w0.heap.size o m c xs n W hm hl h hb.size h0 h1).mono fun e W' ⟨o', c', he, ho, hg⟩ => ⟨o', c', he, ho, hg.below hb h⟩

set_option maxRecDepth 100000 in
set_option maxHeartbeats 4000000 in
theorem row36 (w0 : World) (o : Option Addr) (m c : Nat) (xs : List Int) (a : Option Addr) (n2 c2 : Nat) (ls : List Int) (W : World) (hm : xs.length = m) (hn : ls.length = n2) (hl : m + 9 * n2 ≤ 800000000) (h : W.ownsRow w0.heap.size 5 1 (.slice o m c) m (xs.map (Value.int .u8))) (hb : Below w0.heap.size w0 W)
    (hr : Row .i64 (-9223372036854775808) 9223372036854775807 w0 a ls) (hx : ∀ x ∈ ls, -4611686018427387903 ≤ x ∧ x ≤ 4611686018427387903) :
    Calls Try.prog 36 #[.slice o m c, .slice a n2 c2] W fun e W' => ROut w0 (xs ++ Bin.row ls ++ Bin.num 0) e W' := by
  have HR := hid hr
  have HX := hid hx
  have HM := hid hm
  have HN := hid hn
  have HO := hid h
  have HB := hid hb
  have sh : Hid (n2 = 0) ∨ ∃ g off, a = some ⟨g, off, none⟩ := by
    rcases hr.shape with h | ⟨g, off, e⟩
    · exact .inl (hid (by omega))
    · exact .inr ⟨g, off, e⟩
  clear hr hx hm hn h hb
  rcases sh with Z | ⟨g, off, rfl⟩
  all_goals
    go_enter Try.func36, Try.ntmps36
    go_wp2
    go_loopw [0, 6, 9] (fun bv _ iv wr => ∃ (ys : List Int) (o' : Option Addr) (k c' i : Nat), bv = .slice o' k c' ∧ iv = .int .i64 i ∧ i ≤ n2 ∧ Hid (ys.length = k) ∧ Hid (wr.ownsRow w0.heap.size 5 1 (.slice o' k c') k (ys.map (Value.int .u8))) ∧ Hid (Below w0.heap.size w0 wr) ∧ Hid (ys = xs ++ Bin.row (ls.take i))) (fun _ _ iv _ => n2 - (intOf iv).toNat)
    case atStart => exact ⟨xs, o, m, c, 0, rfl, rfl, by omega, HM, HO, HB, hid (by simp [Bin.row_nil])⟩
    case round =>
      obtain ⟨ys, o', k, c', i, rfl, rfl, hi, HK, HOW, HBW, HE⟩ := hrel
      have HKL := hid (show k ≤ 900000000 by
        have h1 := HK.out
        rw [HE.out, List.length_append, HM.out] at h1
        have h2 := Bin.row_len (l := ls.take i) (fun x hx => HX.out x (List.mem_of_mem_take hx))
        rw [List.length_take, HN.out] at h2
        omega)
      by_cases hlt : i < n2
      · have hlt' : (i : Int) < n2 := by omega
        first
        | (exfalso; have := Z.out; omega)
        | (obtain ⟨b', off', e, _, hc, hc1, hc2⟩ := (HR.out.below HBW.out).at (j := i) (by rw [HN.out]; exact hlt)
           cases e
           have hils : i < ls.length := by rw [HN.out]; exact hlt
           have hxx := HX.out (ls.getD i 0) (by simp [List.getD, List.getElem?_eq_getElem hils])
           have HT := hid (Bin.row_take ls i hils)
           generalize ls.getD i 0 = x at hc hc1 hc2 hxx HT
           obtain ⟨q, hq⟩ : ∃ q, (ys ++ Bin.num x).length = q := ⟨_, rfl⟩
           have C := hid ((num34 w0 o' k c' ys x wr HK.out HKL.out HOW.out HBW.out hxx.1 hxx.2).mono fun e W' h => h.len hq)
           have HQ := hid hq
           clear hq
           have HEQ := hid (show ys ++ Bin.num x = xs ++ Bin.row (ls.take (i + 1)) by rw [HT.out, HE.out, List.append_assoc])
           clear hils hxx
           go_wp2_with (go_at_call 34; refine C.out.mono ?_; clear C; rintro e W3 ⟨o3, c3, rfl, ho3, hb3⟩
                        have HO3 := hid ho3
                        have HB3 := hid hb3
                        clear ho3 hb3)
           go_roundw
           case rel => exact ⟨ys ++ Bin.num x, _, _, _, i + 1, rfl, by go_num, by omega, HQ, HO3, HB3, HEQ⟩
           case measure => simp [intOf]; omega)
      · have hlt' : ¬ (i : Int) < n2 := by omega
        have HEQ := hid (show ys ++ Bin.num 0 = xs ++ Bin.row ls ++ Bin.num 0 by rw [HE.out, List.take_of_length_le (by rw [HN.out]; omega)])
        obtain ⟨q, hq⟩ : ∃ q, (ys ++ Bin.num 0).length = q := ⟨_, rfl⟩
        have C := hid ((num34 w0 o' k c' ys 0 wr HK.out HKL.out HOW.out HBW.out (by decide) (by decide)).mono fun e W' h => h.len hq)
        have HQ := hid hq
        clear hq
        go_wp2_with (go_at_call 34; refine C.out.mono ?_; clear C; rintro e W3 ⟨o3, c3, rfl, ho3, hb3⟩
                     have HO3 := hid ho3
                     have HB3 := hid hb3
                     clear ho3 hb3)
        go_ret
        unfold ROut
        rw [← HEQ.out, HQ.out]
        exact ⟨_, _, rfl, HO3.out, HB3.out⟩
set_option maxRecDepth 100000 in
set_option maxHeartbeats 4000000 in
theorem row35 (w0 : World) (o : Option Addr) (m c : Nat) (xs : List Int) (a : Option Addr) (n2 c2 : Nat) (ls : List Int) (W : World) (hm : xs.length = m) (hn : ls.length = n2) (hl : m + 9 * n2 ≤ 800000000) (h : W.ownsRow w0.heap.size 5 1 (.slice o m c) m (xs.map (Value.int .u8))) (hb : Below w0.heap.size w0 W)
    (hr : Row .i32 (-2147483648) 2147483647 w0 a ls) (hx : ∀ x ∈ ls, -4611686018427387903 ≤ x ∧ x ≤ 4611686018427387903) :
    Calls Try.prog 35 #[.slice o m c, .slice a n2 c2] W fun e W' => ROut w0 (xs ++ Bin.row ls ++ Bin.num 0) e W' := by
  have HR := hid hr
  have HX := hid hx
  have HM := hid hm
  have HN := hid hn
  have HO := hid h
  have HB := hid hb
  have sh : Hid (n2 = 0) ∨ ∃ g off, a = some ⟨g, off, none⟩ := by
    rcases hr.shape with h | ⟨g, off, e⟩
    · exact .inl (hid (by omega))
    · exact .inr ⟨g, off, e⟩
  clear hr hx hm hn h hb
  rcases sh with Z | ⟨g, off, rfl⟩
  all_goals
    go_enter Try.func35, Try.ntmps35
    go_wp2
    go_loopw [0, 6, 9] (fun bv _ iv wr => ∃ (ys : List Int) (o' : Option Addr) (k c' i : Nat), bv = .slice o' k c' ∧ iv = .int .i64 i ∧ i ≤ n2 ∧ Hid (ys.length = k) ∧ Hid (wr.ownsRow w0.heap.size 5 1 (.slice o' k c') k (ys.map (Value.int .u8))) ∧ Hid (Below w0.heap.size w0 wr) ∧ Hid (ys = xs ++ Bin.row (ls.take i))) (fun _ _ iv _ => n2 - (intOf iv).toNat)
    case atStart => exact ⟨xs, o, m, c, 0, rfl, rfl, by omega, HM, HO, HB, hid (by simp [Bin.row_nil])⟩
    case round =>
      obtain ⟨ys, o', k, c', i, rfl, rfl, hi, HK, HOW, HBW, HE⟩ := hrel
      have HKL := hid (show k ≤ 900000000 by
        have h1 := HK.out
        rw [HE.out, List.length_append, HM.out] at h1
        have h2 := Bin.row_len (l := ls.take i) (fun x hx => HX.out x (List.mem_of_mem_take hx))
        rw [List.length_take, HN.out] at h2
        omega)
      by_cases hlt : i < n2
      · have hlt' : (i : Int) < n2 := by omega
        first
        | (exfalso; have := Z.out; omega)
        | (obtain ⟨b', off', e, _, hc, hc1, hc2⟩ := (HR.out.below HBW.out).at (j := i) (by rw [HN.out]; exact hlt)
           cases e
           have hils : i < ls.length := by rw [HN.out]; exact hlt
           have hxx := HX.out (ls.getD i 0) (by simp [List.getD, List.getElem?_eq_getElem hils])
           have HT := hid (Bin.row_take ls i hils)
           generalize ls.getD i 0 = x at hc hc1 hc2 hxx HT
           obtain ⟨q, hq⟩ : ∃ q, (ys ++ Bin.num x).length = q := ⟨_, rfl⟩
           have C := hid ((num34 w0 o' k c' ys x wr HK.out HKL.out HOW.out HBW.out hxx.1 hxx.2).mono fun e W' h => h.len hq)
           have HQ := hid hq
           clear hq
           have HEQ := hid (show ys ++ Bin.num x = xs ++ Bin.row (ls.take (i + 1)) by rw [HT.out, HE.out, List.append_assoc])
           clear hils hxx
           go_wp2_with (go_at_call 34; refine C.out.mono ?_; clear C; rintro e W3 ⟨o3, c3, rfl, ho3, hb3⟩
                        have HO3 := hid ho3
                        have HB3 := hid hb3
                        clear ho3 hb3)
           go_roundw
           case rel => exact ⟨ys ++ Bin.num x, _, _, _, i + 1, rfl, by go_num, by omega, HQ, HO3, HB3, HEQ⟩
           case measure => simp [intOf]; omega)
      · have hlt' : ¬ (i : Int) < n2 := by omega
        have HEQ := hid (show ys ++ Bin.num 0 = xs ++ Bin.row ls ++ Bin.num 0 by rw [HE.out, List.take_of_length_le (by rw [HN.out]; omega)])
        obtain ⟨q, hq⟩ : ∃ q, (ys ++ Bin.num 0).length = q := ⟨_, rfl⟩
        have C := hid ((num34 w0 o' k c' ys 0 wr HK.out HKL.out HOW.out HBW.out (by decide) (by decide)).mono fun e W' h => h.len hq)
        have HQ := hid hq
        clear hq
        go_wp2_with (go_at_call 34; refine C.out.mono ?_; clear C; rintro e W3 ⟨o3, c3, rfl, ho3, hb3⟩
                     have HO3 := hid ho3
                     have HB3 := hid hb3
                     clear ho3 hb3)
        go_ret
        unfold ROut
        rw [← HEQ.out, HQ.out]
        exact ⟨_, _, rfl, HO3.out, HB3.out⟩
end Go.Proofs.Ytmgeoeajnpnadaa
