/- The queue's small calls. -/
import Derived.Test.YtjnifadfcnpdoaaQuM
namespace Go.Proofs.Ytjnifadfcnpdoaa
open Go.RowKit Go.Maps
set_option linter.unusedVariables false
set_option maxRecDepth 100000

theorem size23 {A : Adr} {m : Nat} {ah bh : List Nat} {rk st : List Int} {lk : Nat} {W : World} (H : Qr A m ah bh rk st lk W) (h1 : 1 ≤ m) (h2 : m ≤ 1048577) :
    Calls Try.prog 23 #[.pointer (some ⟨A.qb, 0, none⟩)] W fun e w' => e = .returned (.int .i64 ((m : Int) - 1)) ∧ w' = W := by
  have c0 := row_cell H.blk 0
  have hm : ((m : Int) == 0) = false := by simp; omega
  have h3 : (1 : Int) ≤ m := by omega
  have h4 : (m : Int) ≤ 1048577 := by omega
  clear H h1 h2
  go_enter Try.func23, Try.ntmps23
  go_wp2
  go_ret
  exact ⟨by go_num, rfl⟩
theorem last34 {A : Adr} {m : Nat} {ah bh : List Nat} {rk st : List Int} {lk : Nat} {W : World} (H : Qr A m ah bh rk st lk W) (h1 : 1 ≤ m) :
    Calls Try.prog 34 #[.pointer (some ⟨A.qb, 0, none⟩)] W fun e w' => e = .returned (.int .i64 ((ah.getD 0 0 : Nat) : Int)) ∧ w' = W := by
  have c0 := row_cell H.blk 0
  have c1 := (own_cell H.ahs (k := 0) (by omega)).1
  rw [inn_at (by have := H.len; omega)] at c1
  have h3 : (0 : Int) < m := by omega
  generalize ah.getD 0 0 = x at *
  clear H h1
  go_enter Try.func34, Try.ntmps34
  go_wp2
  go_ret
  exact ⟨rfl, rfl⟩
theorem has30_no {A : Adr} {m : Nat} {ah bh : List Nat} {rk st : List Int} {lk : Nat} {W : World} (H : Qr A m ah bh rk st lk W) (h1 : 1 ≤ m) (h2 : m ≤ 1048577) (v : Int) (hv : v < 1 ∨ (m : Int) ≤ v) :
    Calls Try.prog 30 #[.pointer (some ⟨A.qb, 0, none⟩), .int .i64 v] W fun e w' => e = .returned (.bool false) ∧ w' = W := by
  have C := hid (size23 H h1 h2)
  by_cases hv1 : v < 1
  · have hx : ¬ 0 < v := by omega
    clear H hv
    go_enter Try.func30, Try.ntmps30
    go_wp2
    go_ret
    exact ⟨rfl, rfl⟩
  · have hx : 0 < v := by omega
    have hy : decide (v ≤ (m : Int) - 1) = false := decide_eq_false (by omega)
    generalize (m : Int) - 1 = z at *
    clear H hv hv1
    go_enter Try.func30, Try.ntmps30
    go_wp2_with (go_at_call 23; refine C.out.mono ?_; rintro e w4 ⟨rfl, hw4⟩; rw [hw4]; clear hw4)
    go_ret
    exact ⟨rfl, rfl⟩
theorem has30_ok {A : Adr} {m : Nat} {ah bh : List Nat} {rk st : List Int} {lk : Nat} {W : World} (H : Qr A m ah bh rk st lk W) (h2 : m ≤ 1048577) {v : Nat} (hv : 1 ≤ v) (hv2 : v < m) :
    Calls Try.prog 30 #[.pointer (some ⟨A.qb, 0, none⟩), .int .i64 (v : Int)] W fun e w' => e = .returned (.bool true) ∧ w' = W := by
  have C := hid (size23 H (by omega) h2)
  have hx : 0 < (v : Int) := by omega
  have hy : (v : Int) ≤ (m : Int) - 1 := by omega
  generalize (m : Int) - 1 = z at *
  generalize (v : Int) = y at *
  clear H hv hv2
  go_enter Try.func30, Try.ntmps30
  go_wp2_with (go_at_call 23; refine C.out.mono ?_; rintro e w4 ⟨rfl, hw4⟩; rw [hw4]; clear hw4)
  go_ret
  exact ⟨rfl, rfl⟩
theorem stamp18_no {A : Adr} {m : Nat} {ah bh : List Nat} {rk st : List Int} {lk : Nat} {W : World} (H : Qr A m ah bh rk st lk W) (h1 : 1 ≤ m) (h2 : m ≤ 1048577) (v : Int) (hv : v < 1 ∨ (m : Int) ≤ v) :
    Calls Try.prog 18 #[.pointer (some ⟨A.qb, 0, none⟩), .int .i64 v] W fun e w' => e = .returned (.int .i64 0) ∧ w' = W := by
  have C := hid (has30_no H h1 h2 v hv)
  clear H hv
  go_enter Try.func18, Try.ntmps18
  go_wp2_with (go_at_call 30; refine C.out.mono ?_; rintro e w4 ⟨rfl, hw4⟩; rw [hw4]; clear hw4)
  go_ret
  exact ⟨rfl, rfl⟩
theorem stamp18_ok {A : Adr} {m : Nat} {ah bh : List Nat} {rk st : List Int} {lk : Nat} {W : World} (H : Qr A m ah bh rk st lk W) (h2 : m ≤ 1048577) {v : Nat} (hv : 1 ≤ v) (hv2 : v < m) :
    Calls Try.prog 18 #[.pointer (some ⟨A.qb, 0, none⟩), .int .i64 (v : Int)] W fun e w' => e = .returned (.int .i64 (st.getD v 0)) ∧ w' = W := by
  have C := hid (has30_ok H h2 hv hv2)
  have c3 := row_cell H.blk 3
  have c1 := (own_cell H.sts (k := v) hv2).1
  rw [iss_at (by have := H.len; omega)] at c1
  have hx : (v : Int) < m := by omega
  generalize st.getD v 0 = x at *
  clear H hv hv2
  go_enter Try.func18, Try.ntmps18
  go_wp2_with (go_at_call 30; refine C.out.mono ?_; rintro e w4 ⟨rfl, hw4⟩; rw [hw4]; clear hw4)
  go_ret
  exact ⟨rfl, rfl⟩
/-- v, and w just behind it. -/
theorem link35 {A : Adr} {m : Nat} {ah bh : List Nat} {rk st : List Int} {lk : Nat} {W : World} (H : Qr A m ah bh rk st lk W) {v u : Nat} (hv : v < m) (hu : u < m) :
    Calls Try.prog 35 #[.pointer (some ⟨A.qb, 0, none⟩), .int .i64 (v : Int), .int .i64 (u : Int)] W fun e w' => e = .returned (.tuple #[]) ∧ Qr A m (ah.set u v) (bh.set v u) rk st lk w' ∧ Fa A W w' := by
  have c1 := row_cell H.blk 1
  obtain ⟨H2, F2⟩ := H.setB v u
  obtain ⟨H3, F3⟩ := H2.setA u v
  have f1 := (own_cell H.bhs (k := v) hv).2
  have x1 := (own_cell H.bhs (k := v) hv).1
  rw [inn_at (by have := H.len; omega)] at x1
  have d0 := row_cell H2.blk 0
  have f2 := (own_cell H2.ahs (k := u) hu).2
  have x2 := (own_cell H2.ahs (k := u) hu).1
  rw [inn_at (by have := H2.len; omega)] at x2
  have hx : (v : Int) < m := by omega
  have hy : (u : Int) < m := by omega
  have HO := hid (And.intro H3 (F2.trans F3))
  clear H H2 H3 F2 F3 hv hu
  go_enter Try.func35, Try.ntmps35
  go_wp2
  go_end0
  exact ⟨rfl, HO.out⟩
set_option maxHeartbeats 4000000 in
theorem takeOut37 {A : Adr} {m : Nat} {ah bh : List Nat} {rk st : List Int} {lk : Nat} {W : World} (H : Qr A m ah bh rk st lk W) {v p s : Nat} (hv : v < m) (hp : p < m) (hs : s < m) (ep : ah.getD v 0 = p) (es : bh.getD v 0 = s) :
    Calls Try.prog 37 #[.pointer (some ⟨A.qb, 0, none⟩), .int .i64 (v : Int)] W fun e w' => e = .returned (.tuple #[]) ∧ Qr A m (ah.set s p) (bh.set p s) rk st lk w' ∧ Fa A W w' := by
  have c0 := row_cell H.blk 0
  have c1 := row_cell H.blk 1
  have x1 := (own_cell H.bhs (k := v) hv).1
  rw [inn_at (by have := H.len; omega), es] at x1
  have x2 := (own_cell H.ahs (k := v) hv).1
  rw [inn_at (by have := H.len; omega), ep] at x2
  have C := hid (fun (w : World) (hb : Below W.heap.size W w) => (link35 (H.below hb) hp hs).mono fun e w' (h : e = .returned (.tuple #[]) ∧ Qr A m (ah.set s p) (bh.set p s) rk st lk w' ∧ Fa A w w') => (⟨h.1, h.2.1, (Fq.of_below hb).trans h.2.2⟩ : e = .returned (.tuple #[]) ∧ Qr A m (ah.set s p) (bh.set p s) rk st lk w' ∧ Fa A W w'))
  have hx : (v : Int) < m := by omega
  clear H hv hp hs ep es
  go_enter Try.func37, Try.ntmps37
  go_wp2_with (fail)
  go_region_with (go_at_call 35; refine (C.out _ (Below.refl _ _).drew).mono ?_; rintro e w4 ⟨rfl, hw4⟩)
  all_goals
    go_wp2
    go_end0
    exact ⟨rfl, hw4⟩
set_option maxHeartbeats 4000000 in
theorem putLast24 {A : Adr} {m : Nat} {ah bh : List Nat} {rk st : List Int} {lk : Nat} {W : World} (H : Qr A m ah bh rk st lk W) {v p : Nat} (hv : v < m) (hp : p < m) (ep : ah.getD 0 0 = p) (hr : 0 ≤ rk.getD p 0 ∧ rk.getD p 0 ≤ 4611686018427387904) :
    Calls Try.prog 24 #[.pointer (some ⟨A.qb, 0, none⟩), .int .i64 (v : Int)] W fun e w' => e = .returned (.tuple #[]) ∧ Qr A m ((ah.set v p).set 0 v) ((bh.set p v).set v 0) (rk.set v (rk.getD p 0 + 1)) st lk w' ∧ Fa A W w' := by
  have C0 := hid (last34 H (by omega))
  rw [ep] at C0
  have c2 := row_cell H.blk 2
  have x1 := (own_cell H.rks (k := p) hp).1
  rw [iss_at (by have := H.len; omega)] at x1
  have f2 := (own_cell H.rks (k := v) hv).2
  have y2 := (own_cell H.rks (k := v) hv).1
  rw [iss_at (by have := H.len; omega)] at y2
  have C1 := hid (fun (q : Nat) => link35 ((H.below (Drawn.below ⟨q, rfl⟩)).setR v (rk.getD p 0 + 1)).1 hp hv)
  have HF := hid (fun (q : Nat) => show Fa A W ((W.drewN q).setCell ⟨A.gr, v, none⟩ (.int .i64 (rk.getD p 0 + 1))) from (Fq.of_below (Drawn.below ⟨q, rfl⟩)).trans ((H.below (Drawn.below ⟨q, rfl⟩)).setR v (rk.getD p 0 + 1)).2)
  have C2 := hid (fun (w : World) (h : Qr A m (ah.set v p) (bh.set p v) (rk.set v (rk.getD p 0 + 1)) st lk w) => link35 h (v := v) (u := 0) hv (by omega))
  have hx : (v : Int) < m := by omega
  have hy : (p : Int) < m := by omega
  generalize rk.getD p 0 = x at *
  generalize rk.getD v 0 = x' at *
  have hw : wrap64 (x + 1) = x + 1 := by unfold wrap64; omega
  clear H hv hp ep hr
  go_enter Try.func24, Try.ntmps24
  go_wp2_with (go_at_call 34; refine C0.out.mono ?_; rintro e w4 ⟨rfl, hw4⟩; rw [hw4]; clear hw4)
  go_region
  all_goals
    go_wp2_with (fail)
    go_at_call 35
    refine (C1.out 1).mono ?_
    rintro e w5 ⟨rfl, h5, f5⟩
    have C3 := hid (C2.out _ h5)
    clear C1 C2 C0
    go_wp2_with (go_at_call 35; refine C3.out.mono ?_; rintro e w6 ⟨rfl, h6, f6⟩)
    go_end0
    exact ⟨rfl, h6, ((HF.out 1).trans f5).trans f6⟩
end Go.Proofs.Ytjnifadfcnpdoaa
