/- Two texts one behind the other, and a text cut short, as a call. -/
import Derived.Test.YtdodfmgbjfhnpaaDoorRowp
import Derived.ChangeArms
import Derived.WideShapes
namespace Go.Proofs.YtdodfmgbjfhnpaaDoor
open Go.RowKit
set_option linter.unusedVariables false
set_option linter.unusedSimpArgs false

theorem own_room {W : World} {n e size m : Nat} {a : Option Addr} {l c : Nat} {xs : List Value} (h : W.ownsRow n e size (.slice a l c) m xs) : m ≤ c := by
  rcases h.2 with ⟨e1, h0⟩ | ⟨g, cap, cur, e1, _, _, hc, _⟩
  · omega
  · cases e1; exact hc
/-- What Parse tells, and the room of it. -/
theorem POut.room {w w' : World} {ss : List Lra.Stp} {e : Ending} (h : POut w (.ok ss) e w') (hm : ss.all Lra.may = true) (hi : Lra.items ss ≤ 1000000) :
    ∃ a c, e = .returned (.tuple #[.slice a ss.length c, .int .i64 0, .int .i64 0]) ∧ Steps w' a ss ∧ ss.length ≤ c ∧ (a = none → ss.length = 0) ∧ Below w.heap.size w w' := by
  rcases h with ⟨_, h, _⟩ | ⟨qs, v, h, he, hmem, hb⟩
  · cases h
  · injection h with h
    have hl : qs.length = ss.length := by rw [h]; simp
    obtain ⟨a, c, rfl, hs⟩ := hmem.steps (fun q hq => by
      have hq' : q.1 ∈ ss := by rw [h]; exact List.mem_map_of_mem hq
      have := Lra.item_le hq'
      exact Lra.fits_of (List.all_eq_true.1 hm _ hq') (by omega) (by omega))
    rw [hl] at he
    rw [← h] at hs
    refine ⟨a, c, he, hs, by rw [← hl]; exact own_room hmem.row, ?_, hb⟩
    rintro rfl
    rcases hs with hs | ⟨b, off, e, _⟩
    · rw [hs]; rfl
    · cases e
/-- A text that is read: how it ends. -/
theorem calls15 (T : ByteArray) (hT : T.size ≤ 100000) (n : Nat) (w W : World) (hW : Below n w W) (hn : n ≤ W.heap.size) :
    (∀ k, Lra.parse (Lra.ints T) = .error k → 0 < k ∧ Calls Tryd.prog 15 #[.string T] W fun e w' => e = .returned (.tuple #[.slice none 0 0, .int .i64 40, .int .i64 (k : Int)]) ∧ Below n w w') ∧
    (∀ ts, Lra.parse (Lra.ints T) = .ok ts → ts.length ≤ 100000 ∧ Calls Tryd.prog 15 #[.string T] W fun e w' => ∃ a c, e = .returned (.tuple #[.slice a ts.length c, .int .i64 0, .int .i64 0]) ∧ Steps w' a ts ∧ ts.length ≤ c ∧ (a = none → ts.length = 0) ∧ Below W.heap.size W w' ∧ Below n w w') := by
  constructor
  · intro k hp
    refine ⟨by have := Lra.parseGo_err hp; simpa using this, (parse15 T W (by omega)).mono ?_⟩
    intro e w' q
    rw [hp] at q
    exact ⟨q.err.1, hW.trans (q.err.2.mono hn)⟩
  · intro ts hp
    obtain ⟨h1, h2⟩ := Lra.parse_small hp
    rw [Lra.ints_len] at h1 h2
    refine ⟨by omega, (parse15 T W (by omega)).mono ?_⟩
    intro e w' q
    rw [hp] at q
    obtain ⟨a, c, he, hs, hc, h0, hb⟩ := q.room (Lra.text_parse hp).2 (by omega)
    exact ⟨a, c, he, hs, hc, h0, hb, hW.trans (hb.mono hn)⟩
theorem ints_append (A B : ByteArray) : Lra.ints (A ++ B) = Lra.ints A ++ Lra.ints B := by
  unfold Lra.ints
  rw [ByteArray.data_append, Array.toList_append, List.map_append]

set_option maxRecDepth 100000 in
set_option maxHeartbeats 8000000 in
theorem law6_long (A B : ByteArray) (nn : Int) (w : World) (h : ¬ A.size ≤ 6000 ∨ ¬ B.size ≤ 6000) (hT : Tab w.heap.size w) :
    Calls Tryd.prog 6 #[.string A, .string B, .int .i64 nn] w fun e w' => e = .returned (.bool true) ∧ Below w.heap.size w w' := by
  have CW := hid (works10 w hT)
  by_cases hA : A.size ≤ 6000
  · have hB : ¬ B.size ≤ 6000 := by rcases h with h | h; exact absurd hA h; exact h
    have hA' : ¬ (6000 : Int) < A.size := by omega
    have hB' : (6000 : Int) < B.size := by omega
    clear h hA hB hT
    go_enter Tryd.func6, Tryd.ntmps6
    go_wp2_with (go_at_call 10; refine CW.out.mono ?_; clear CW; rintro e W4 ⟨rfl, hb4⟩; have HB4 := hid hb4; clear hb4)
    go_ret
    exact ⟨rfl, HB4.out⟩
  · have hA' : (6000 : Int) < A.size := by omega
    clear h hA hT
    go_enter Tryd.func6, Tryd.ntmps6
    go_wp2_with (go_at_call 10; refine CW.out.mono ?_; clear CW; rintro e W4 ⟨rfl, hb4⟩; have HB4 := hid hb4; clear hb4)
    go_ret
    exact ⟨rfl, HB4.out⟩

set_option maxRecDepth 100000 in
set_option maxHeartbeats 8000000 in
theorem law6_err (A B : ByteArray) (nn : Int) (w : World) (k : Nat) (hA : A.size ≤ 6000) (hB : B.size ≤ 6000) (hp : Lra.parse (Lra.ints A) = .error k) (hT : Tab w.heap.size w) :
    Calls Tryd.prog 6 #[.string A, .string B, .int .i64 nn] w fun e w' => e = .returned (.bool true) ∧ Below w.heap.size w w' := by
  have CW := hid (fun (W : World) (hW : Below w.heap.size w W) => (works10 W (hT.on hW hW.size)).mono (R' := fun e w' => e = .returned (.bool true) ∧ Below w.heap.size w w') fun e w' q => ⟨q.1, hW.trans (q.2.mono hW.size)⟩)
  have hA' : ¬ (6000 : Int) < A.size := by omega
  have hB' : ¬ (6000 : Int) < B.size := by omega
  obtain ⟨hk, CA⟩ := (calls15 A (by omega) w.heap.size w w (Below.refl _ _) (Nat.le_refl _)).1 k hp
  have KA := hid CA
  have hsz : (A ++ B).size = A.size + B.size := ByteArray.size_append
  have hcat : ¬ 9223372036854775807 < A.size + B.size := by omega
  have CB : Hid (∀ W, Below w.heap.size w W → Calls Tryd.prog 15 #[.string B] W fun e w' => ∃ x y z, e = .returned (.tuple #[x, .int .i64 y, .int .i64 z]) ∧ Below w.heap.size w w') := hid (fun W hW => by
    cases hpB : Lra.parse (Lra.ints B) with
    | error k2 => exact ((calls15 B (by omega) w.heap.size w W hW hW.size).1 k2 hpB).2.mono (fun e w' q => ⟨_, _, _, q.1, q.2⟩)
    | ok m => exact ((calls15 B (by omega) w.heap.size w W hW hW.size).2 m hpB).2.mono (fun e w' q => by
        obtain ⟨a, c, h1, _, _, _, _, h2⟩ := q
        exact ⟨_, _, _, h1, h2⟩))
  have h0 : 0 < A.size := by
    rcases Nat.eq_zero_or_pos A.size with h | h
    · have : Lra.ints A = [] := List.eq_nil_of_length_eq_zero (by rw [Lra.ints_len]; exact h)
      rw [this] at hp; cases hp
    · exact h
  have h0' : (0 : Int) < A.size := by omega
  obtain ⟨j, hj⟩ : ∃ j, A.size = j + 1 := ⟨A.size - 1, by omega⟩
  have hjl : j < A.size := by omega
  have hlast : (Lra.ints A).getLast? = some (A[j].toNat : Int) := by
    rw [List.getLast?_eq_getElem?, Lra.ints_len, hj]
    rw [show j + 1 - 1 = j by omega, List.getElem?_eq_getElem (by rw [Lra.ints_len]; exact hjl), Lra.ints_get A j hjl]
  obtain ⟨x, hx⟩ : ∃ x : Int, (A[j].toNat : Int) = x := ⟨_, rfl⟩
  rw [hx] at hlast
  by_cases hw : x = 10
  · have hpw := Lra.parse_app_err (b := Lra.ints B) hp (.inr (by rw [hlast, hw]))
    rw [← ints_append] at hpw
    have CC := hid (fun (W : World) (hW : Below w.heap.size w W) => ((calls15 (A ++ B) (by omega) w.heap.size w W hW hW.size).1 k hpw).2)
    have hw' : (x != 10) = false := by rw [hw]; rfl
    clear hp hsz hlast hw hT CA hA hB hpw
    go_enter Tryd.func6, Tryd.ntmps6
    go_wp2_with (first
      | (go_at_call 15; refine KA.out.mono ?_; clear KA; rintro e W1 ⟨rfl, hb1⟩; have HB1 := hid hb1; clear hb1)
      | (go_at_call 15; refine (CB.out _ HB1.out).mono ?_; clear CB; rintro e W2 ⟨x2, y2, z2, rfl, hb2⟩; have HB2 := hid hb2; clear hb2)
      | (go_at_call 15; refine (CC.out _ HB2.out).mono ?_; clear CC; rintro e W3 ⟨rfl, hb3⟩; have HB3 := hid hb3; clear hb3)
      | (go_at_call 10; refine (CW.out _ HB3.out).mono ?_; clear CW; rintro e W4 ⟨rfl, hb4⟩; have HB4 := hid hb4; clear hb4))
    go_ret
    exact ⟨rfl, HB4.out⟩
  · have hw' : (x != 10) = true := by simpa using hw
    have CC : Hid (∀ W, Below w.heap.size w W → Calls Tryd.prog 15 #[.string (A ++ B)] W fun e w' => ∃ x y z, e = .returned (.tuple #[x, .int .i64 y, .int .i64 z]) ∧ Below w.heap.size w w') := hid (fun W hW => by
      cases hpB : Lra.parse (Lra.ints (A ++ B)) with
      | error k2 => exact ((calls15 (A ++ B) (by omega) w.heap.size w W hW hW.size).1 k2 hpB).2.mono (fun e w' q => ⟨_, _, _, q.1, q.2⟩)
      | ok m => exact ((calls15 (A ++ B) (by omega) w.heap.size w W hW hW.size).2 m hpB).2.mono (fun e w' q => by
          obtain ⟨a, c, h1, _, _, _, _, h2⟩ := q
          exact ⟨_, _, _, h1, h2⟩))
    clear hp hsz hlast hw hT CA hA hB
    go_enter Tryd.func6, Tryd.ntmps6
    go_wp2_with (first
      | (go_at_call 15; refine KA.out.mono ?_; clear KA; rintro e W1 ⟨rfl, hb1⟩; have HB1 := hid hb1; clear hb1)
      | (go_at_call 15; refine (CB.out _ HB1.out).mono ?_; clear CB; rintro e W2 ⟨x2, y2, z2, rfl, hb2⟩; have HB2 := hid hb2; clear hb2)
      | (go_at_call 15; refine (CC.out _ HB2.out).mono ?_; clear CC; rintro e W3 ⟨x3, y3, z3, rfl, hb3⟩; have HB3 := hid hb3; clear hb3)
      | (go_at_call 10; refine (CW.out _ HB3.out).mono ?_; clear CW; rintro e W4 ⟨rfl, hb4⟩; have HB4 := hid hb4; clear hb4))
    go_ret
    exact ⟨rfl, HB4.out⟩

theorem Steps.front {W : World} {a : Option Addr} {l m : List Lra.Stp} (h : Steps W a (l ++ m)) : Steps W a l := by
  rcases h with h | ⟨b, off, e, h⟩
  · exact .inl (List.append_eq_nil_iff.1 h).1
  · refine .inr ⟨b, off, e, fun j hj => ?_⟩
    have := h j (by rw [List.length_append]; omega)
    rwa [List.getElem_append_left hj] at this
theorem Steps.back {W : World} {b off : Nat} {l m : List Lra.Stp} (h : Steps W (some ⟨b, off, none⟩) (l ++ m)) : Steps W (some ⟨b, off + l.length * 4, none⟩) m := by
  rcases h with h | ⟨b', off', e, h⟩
  · exact .inl (List.append_eq_nil_iff.1 h).2
  · cases e
    refine .inr ⟨b, _, rfl, fun j hj => ?_⟩
    have := h (l.length + j) (by rw [List.length_append]; omega)
    rw [List.getElem_append_right (by omega)] at this
    simp only [Nat.add_sub_cancel_left] at this
    rwa [show off + l.length * 4 + j * 4 = off + (l.length + j) * 4 by omega]
theorem Steps.mapped {W : World} {a : Option Addr} {l m : List Lra.Stp} {ln : Nat} (h : Steps W a (l ++ m)) (hl : l.length = ln) : Steps W (Option.map (fun x => x.add (ln * 4)) a) m := by
  subst hl
  cases a with
  | none =>
    rcases h with h | ⟨b, off, e, _⟩
    · exact .inl (List.append_eq_nil_iff.1 h).2
    · cases e
  | some x =>
    have hx : ∃ b off, x = ⟨b, off, none⟩ ∨ (l ++ m) = [] := by
      rcases h with h | ⟨b, off, e, _⟩
      · exact ⟨0, 0, .inr h⟩
      · exact ⟨b, off, .inl (Option.some.inj e)⟩
    obtain ⟨b, off, rfl | h0⟩ := hx
    · rw [Option.map_some, Go.WideShapes.add_plain]
      exact h.back
    · exact .inl (List.append_eq_nil_iff.1 h0).2
theorem rem_fits (nn : Int) (z : Nat) (hz : z ≤ 6000) : ∃ K : Nat, K ≤ z ∧ wrap64 ((IntKind.u64.wrap nn).tmod ((z : Int) + 1)) = (K : Int) := by
  have h0 : 0 ≤ IntKind.u64.wrap nn := by
    simp [IntKind.wrap, IntKind.bits, IntKind.signed]
    first | done | exact Int.emod_nonneg _ (by decide)
  generalize IntKind.u64.wrap nn = u at h0
  have h1 := Int.tmod_nonneg ((z : Int) + 1) h0
  have h2 := Int.tmod_lt_of_pos u (show (0 : Int) < (z : Int) + 1 by omega)
  generalize u.tmod ((z : Int) + 1) = r at h1 h2
  refine ⟨r.toNat, by omega, ?_⟩
  unfold wrap64
  omega
/-- How a text that is cut short ends. -/
theorem cut_cases (A : ByteArray) (l : List Lra.Stp) (hp : Lra.parse (Lra.ints A) = .ok l) (K : Nat) (hK : K ≤ A.size) :
    (K = 0 ∧ ∃ m, Lra.parse (Lra.ints (A.extract 0 K)) = .ok m) ∨ (∃ j, K = j + 1 ∧ ∃ h : j < A.size, (A[j].toNat : Int) = 10 ∧ ∃ m, Lra.parse (Lra.ints (A.extract 0 K)) = .ok m) ∨
    (∃ j, K = j + 1 ∧ ∃ h : j < A.size, ¬ (A[j].toNat : Int) = 10 ∧ Lra.parse (Lra.ints (A.extract 0 K)) = .error (((Lra.ints A).take K).count 10 + 1)) := by
  have e : Lra.ints (A.extract 0 K) = (Lra.ints A).take K := by rw [Lra.ints_extract, List.drop_zero, Nat.sub_zero]
  obtain ⟨h1, h2⟩ := Lra.parse_cut hp K (by rw [Lra.ints_len]; exact hK)
  rw [e]
  rcases K with _ | j
  · left; exact ⟨rfl, h1 (.inl (by simp))⟩
  · right
    have hj : j < A.size := by omega
    have hlast : ((Lra.ints A).take (j + 1)).getLast? = some (A[j].toNat : Int) := by
      rw [Lra.ints_take A j hj]; simp
    by_cases h10 : (A[j].toNat : Int) = 10
    · left
      exact ⟨j, rfl, hj, h10, h1 (.inr (by rw [hlast, h10]))⟩
    · right
      refine ⟨j, rfl, hj, h10, h2 ?_⟩
      rintro (h | h)
      · rw [h] at hlast; cases hlast
      · rw [hlast] at h; exact h10 (Option.some.inj h)

set_option maxRecDepth 100000 in
set_option maxHeartbeats 8000000 in
theorem law6_ok (A B : ByteArray) (nn : Int) (w : World) (l : List Lra.Stp) (hA : A.size ≤ 6000) (hB : B.size ≤ 6000) (hp : Lra.parse (Lra.ints A) = .ok l) (kB : Nat) (hpB : Lra.parse (Lra.ints B) = .error kB) (hT : Tab w.heap.size w) :
    Calls Tryd.prog 6 #[.string A, .string B, .int .i64 nn] w fun e w' => e = .returned (.bool true) ∧ Below w.heap.size w w' := by
  have CW := hid (fun (W : World) (hW : Below w.heap.size w W) => (works10 W (hT.on hW hW.size)).mono (R' := fun e w' => e = .returned (.bool true) ∧ Below w.heap.size w w') fun e w' q => ⟨q.1, hW.trans (q.2.mono hW.size)⟩)
  have hA' : ¬ (6000 : Int) < A.size := by omega
  have hB' : ¬ (6000 : Int) < B.size := by omega
  obtain ⟨hl, CA⟩ := (calls15 A (by omega) w.heap.size w w (Below.refl _ _) (Nat.le_refl _)).2 l hp
  have KA := hid CA
  have hsz : (A ++ B).size = A.size + B.size := ByteArray.size_append
  have hcat : ¬ 9223372036854775807 < A.size + B.size := by omega
  have CB := hid (fun (W : World) (hW : Below w.heap.size w W) => ((calls15 B (by omega) w.heap.size w W hW hW.size).1 kB hpB).2)
  have hpc : Lra.parse (Lra.ints (A ++ B)) = .error (l.length + kB) := by
    rw [ints_append, Lra.parse_app_ok hp, hpB]
  have CC := hid (fun (W : World) (hW : Below w.heap.size w W) => ((calls15 (A ++ B) (by omega) w.heap.size w W hW hW.size).1 _ hpc).2)
  have hkb : kB ≤ 100000 := by
    have := Lra.parse_err_le hpB
    rw [Lra.ints_len] at this
    omega
  obtain ⟨K, hK, hKw⟩ := rem_fits nn A.size hA
  have HKC := hid (cut_cases A l hp K hK)
  have CK := hid (fun (W : World) (hW : Below w.heap.size w W) => calls15 (A.extract 0 K) (by rw [ByteArray.size_extract]; omega) w.heap.size w W hW hW.size)
  have HKS := hid hK
  have hKi : (K : Int) ≤ A.size := by omega
  have hA6 : (A.size : Int) ≤ 6000 := by omega
  generalize hln : l.length = ln at *
  clear hsz hT CA hB hpc hpB hp hK
  go_enter Tryd.func6, Tryd.ntmps6
  go_wp2_with (first
    | (go_at_call 15; refine KA.out.mono ?_; clear KA; rintro e W1 ⟨a1, c1, rfl, hs1, hc1, hz1, _, hb1⟩; have HB1 := hid hb1; clear hb1 hs1 hz1 hc1)
    | (go_at_call 15; refine (CB.out _ HB1.out).mono ?_; clear CB; rintro e W2 ⟨rfl, hb2⟩; have HB2 := hid hb2; clear hb2)
    | (go_at_call 15; refine (CC.out _ HB2.out).mono ?_; clear CC; rintro e W3 ⟨rfl, hb3⟩; have HB3 := hid hb3; clear hb3))
  try rw [hKw]
  clear hKw
  go_loop [20, 21] (fun lv iv => ∃ i q : Nat, lv = .int .i64 q ∧ iv = .int .i64 i ∧ i ≤ K ∧ q ≤ i ∧ Hid (q = ((Lra.ints A).take i).count 10)) (fun _ iv => K - (intOf iv).toNat)
  case atStart => exact ⟨0, 0, rfl, rfl, Nat.zero_le _, Nat.le_refl _, hid (by simp)⟩
  case round =>
    obtain ⟨i, q, rfl, rfl, hi, hq, HQ⟩ := hrel
    by_cases hlt : i < K
    · have hlt' : (i : Int) < K := by omega
      have hia : i < A.size := by omega
      have hia' : (i : Int) < A.size := by omega
      have HTk := hid (Lra.ints_take A i hia)
      obtain ⟨x, hx⟩ : ∃ x : Int, (A[i].toNat : Int) = x := ⟨_, rfl⟩
      rw [hx] at HTk
      by_cases h10 : x = 10
      · have h10' : (x == 10) = true := by simpa using h10
        have HQ2 := hid (show q + 1 = ((Lra.ints A).take (i + 1)).count 10 by rw [HTk.out, List.count_append, ← HQ.out, h10]; rfl)
        clear h10
        go_wp2
        exact ⟨⟨i + 1, q + 1, by go_num, by go_num, by omega, by omega, HQ2⟩, by simp [intOf]; omega⟩
      · have h10' : (x == 10) = false := by simpa using h10
        have HQ2 := hid (show q = ((Lra.ints A).take (i + 1)).count 10 by rw [HTk.out, List.count_append, ← HQ.out]; simp [h10])
        clear h10
        go_wp2
        exact ⟨⟨i + 1, q, rfl, by go_num, by omega, by omega, HQ2⟩, by simp [intOf]; omega⟩
    · have hlt' : ¬ (i : Int) < K := by omega
      obtain rfl : i = K := by omega
      rcases HKC.out with ⟨h0, m, hm⟩ | ⟨j, hj, hja, h10, m, hm⟩ | ⟨j, hj, hja, h10, hm⟩
      · have KK := hid (fun W hW => ((CK.out W hW).2 m hm).2)
        have h0' : ((i : Int) == 0) = true := by rw [h0]; rfl
        clear CK HKC hm h0
        go_wp2_with (first
          | (go_at_call 15; refine (KK.out _ HB3.out).mono ?_; clear KK; rintro e W5 ⟨a5, c5, rfl, _, _, _, _, hb5⟩; have HB5 := hid hb5; clear hb5)
          | (go_at_call 10; refine (CW.out _ HB5.out).mono ?_; clear CW; rintro e W6 ⟨rfl, hb6⟩; have HB6 := hid hb6; clear hb6))
        go_ret
        exact ⟨rfl, HB6.out⟩
      · have KK := hid (fun W hW => ((CK.out W hW).2 m hm).2)
        clear CK HKC hm
        subst hj
        have hj1 : ¬ ((j : Int) + 1 = 0) := by omega
        have hj2 : (j : Int) < A.size := by omega
        clear hlt hlt' hi
        go_wp2_with (first
          | (go_at_call 15; refine (KK.out _ HB3.out).mono ?_; clear KK; rintro e W5 ⟨a5, c5, rfl, _, _, _, _, hb5⟩; have HB5 := hid hb5; clear hb5)
          | (go_at_call 10; refine (CW.out _ HB5.out).mono ?_; clear CW; rintro e W6 ⟨rfl, hb6⟩; have HB6 := hid hb6; clear hb6))
        go_ret
        exact ⟨rfl, HB6.out⟩
      · have h10' : ((A[j].toNat : Int) == 10) = false := by simpa using h10
        rw [← HQ.out] at hm
        have KK := hid (fun W hW => ((CK.out W hW).1 _ hm).2)
        rw [show ((q + 1 : Nat) : Int) = (q : Int) + 1 from by push_cast; rfl] at KK
        clear CK HKC hm
        subst hj
        have hj1 : ¬ ((j : Int) + 1 = 0) := by omega
        have hj2 : (j : Int) < A.size := by omega
        clear hlt hlt' hi
        go_wp2_with (first
          | (go_at_call 15; refine (KK.out _ HB3.out).mono ?_; clear KK; rintro e W5 ⟨rfl, hb5⟩; have HB5 := hid hb5; clear hb5)
          | (go_at_call 10; refine (CW.out _ HB5.out).mono ?_; clear CW; rintro e W6 ⟨rfl, hb6⟩; have HB6 := hid hb6; clear hb6))
        go_ret
        exact ⟨rfl, HB6.out⟩
end Go.Proofs.YtdodfmgbjfhnpaaDoor
