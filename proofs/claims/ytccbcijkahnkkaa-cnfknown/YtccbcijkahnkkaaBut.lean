/- What a row has; rows gathered without a literal. -/
import Derived.Test.YtccbcijkahnkkaaOrder
namespace Go.Proofs.Ytccbcijkahnkkaa
open Go.RowKit Go.Lib Go.Sort Go.Shelf
set_option linter.unusedVariables false

set_option maxHeartbeats 1000000 in
theorem contains39 (a : Option Addr) (n cap : Nat) (xs : List Int) (x : Int) (w : World) (hn : xs.length = n) (hN : n ≤ 1099511627776) (hx : Lits w a xs) :
    Calls Try.prog 39 #[.slice a n cap, .int .i32 x] w fun e w' => e = .returned (.bool (Cnf.has xs x)) ∧ w' = w := by
  rcases hx.2 with rfl | ⟨b, off, rfl, _, hc⟩
  · have : n = 0 := by simpa using hn.symm
    subst this
    exact AnyE.slices_Contains_empty Try.containsL a cap (.int .i32 x) w
  · have h := AnyE.slices_Contains Try.containsL (Value.int .i32) _ (EqlAt.int _ _ _) b off n cap xs x w (by omega) (by omega) (fun j hj => by rw [hc j hj]; simp [List.getD, hj])
    rw [List.take_of_length_le (by omega)] at h
    exact h

set_option maxHeartbeats 1000000 in
theorem holds32 (a : Option Addr) (n cap : Nat) (xs : List Int) (x : Int) (w : World) (hn : xs.length = n) (hN : n ≤ 1099511627776) (hx : Lits w a xs) :
    Calls Try.prog 32 #[.slice a n cap, .int .i32 x] w fun e w' => e = .returned (.bool (Cnf.has xs x)) ∧ w' = w := by
  have H := hid (contains39 a n cap xs x w hn hN hx)
  clear hx hn
  generalize Cnf.has xs x = r at H
  go_enter Try.func32, Try.ntmps32
  go_wp2_with (go_at_call 39; refine H.out.mono ?_; rintro e w' ⟨rfl, rfl⟩)
  go_ret
  exact ⟨rfl, rfl⟩

set_option maxHeartbeats 2000000 in
/-- All literals of a clause but one, behind those of a row of the call's own. -/
theorem but33 (v : Value) (n0 base : Nat) (zs : List Int) (a : Option Addr) (n cap : Nat) (xs : List Int) (l : Int) (w : World) (hn : xs.length = n) (hN : n0 + n ≤ 1099511627776) (hbase : base ≤ w.heap.size)
    (hown : w.ownsRow base 40 1 v n0 (zs.map (Value.int .i32))) (hx : ∀ w', Below base w w' → Lits w' a xs) :
    Calls Try.prog 33 #[v, .slice a n cap, .int .i32 l] w fun e w' => ∃ v', e = .returned v' ∧ w'.ownsRow base 40 1 v' (zs ++ Cnf.but xs l).length ((zs ++ Cnf.but xs l).map (Value.int .i32)) ∧ Below base w w' := by
  obtain ⟨i0, hi, hz0, hz1, hz2⟩ := info_parts info40
  have hzl : zs.length = n0 := by simpa using hown.1
  have HX : Hid (∀ w', Below base w w' → Lits w' a xs) := hx
  have HN := hid hn
  have HZ := hid hzl
  have hown0 : w.ownsRow base 40 1 v (zs ++ Cnf.but (xs.take 0) l).length ((zs ++ Cnf.but (xs.take 0) l).map (Value.int .i32)) := by
    have e : zs ++ Cnf.but (xs.take 0) l = zs := by simp [Cnf.but]
    rw [e, hzl]; exact hown
  have HO := hid hown0
  clear hx hn hzl hown hown0
  go_enter Try.func33, Try.ntmps33
  go_wp2
  go_loopw [0, 11] (fun u i wr => ∃ k : Nat, k ≤ n ∧ i = .int .i64 k ∧ wr.ownsRow base 40 1 u (zs ++ Cnf.but (xs.take k) l).length ((zs ++ Cnf.but (xs.take k) l).map (Value.int .i32)) ∧ Below base w wr)
    (fun _ i _ => n - (intOf i).toNat)
  case atStart => exact ⟨0, Nat.zero_le _, rfl, HO.out, Below.refl _ _⟩
  case round =>
    clear HO
    rename_i u _ wr
    obtain ⟨k, hk, rfl, hown, hbel⟩ := hrel
    have hsz : base ≤ wr.heap.size := Nat.le_trans hbase hbel.size
    have HBel := hid hbel
    have HO := hid hown
    have hlen : (zs ++ Cnf.but (xs.take k) l).length ≤ n0 + n := by
      have h1 := Cnf.but_len (xs.take k) l
      have h2 := HZ.out
      have h3 := HN.out
      simp only [List.length_append, List.length_take] at h1 ⊢
      omega
    by_cases hlt : k < n
    · obtain ⟨b, off, rfl, hc, hx1, hx2⟩ := (HX.out wr hbel).at (k := k) (by rw [HN.out]; exact hlt)
      have HS := hid (Cnf.but_take xs l k (by rw [HN.out]; exact hlt))
      generalize xs.getD k 0 = x at hc hx1 hx2 HS
      by_cases e : x = l
      · have hne : (x != l) = false := by simp [e]
        have HS' : Hid (Cnf.but (xs.take (k + 1)) l = Cnf.but (xs.take k) l) := by
          have h := HS.out
          rw [hne] at h
          show _ = _
          simpa using h
        clear hown hbel e HS
        go_wp2
        go_roundw
        case rel => exact ⟨k + 1, by omega, by go_num, by rw [HS'.out]; exact HO.out, HBel.out⟩
        case measure => simp [intOf]; omega
      · have hne : (x != l) = true := by simp [e]
        have HS' : Hid (zs ++ Cnf.but (xs.take (k + 1)) l = (zs ++ Cnf.but (xs.take k) l) ++ [x]) := by
          have h := HS.out
          rw [hne] at h
          show _ = _
          rw [h]; simp
        clear hbel e HS HO
        generalize zs ++ Cnf.but (xs.take k) l = ys at hown hlen HS'
        have hown1 := hid hown
        generalize hm : ys.length = m at hown hlen
        have HM := hid hm
        have hO := hid hown
        clear hm hown hown1
        go_wp2_with (first
          | (at_builtin; refine wpList_append_own _ rfl _ _ 33 rfl base 40 i0 (.int .i32 0) 1 4 Try.underlying33 hi hz0 hz1 hz2 rfl (by decide) _ m (ys.map (Value.int .i32)) rfl (hO.out.alloc _) ⟨wr.heap.size, 0, none⟩ 1 1 [.int .i32 x] rfl rfl ?c1 ?c2 ?c3 ?c4 ?c5 ?_))
        case c1 =>
          intro j u hj
          match j, hj with
          | 0, hj => simp at hj; subst hj; simp [Addr.add]
        case c2 => intro u hu; simp at hu; subst hu; rfl
        case c3 => unfold maxLen; omega
        case c4 => omega
        case c5 => simp; omega
        intro v' w1 hown' hgrow hnil'
        have hb1 : Below base w w1 := (HBel.out.alloc hsz _).grown hgrow (by simp; omega) (fun g hg => (hO.out.lt g hg).1)
        have HB1 := hid hb1
        have HO1 : Hid (w1.ownsRow base 40 1 v' (ys ++ [x]).length ((ys ++ [x]).map (Value.int .i32))) := by
          show w1.ownsRow base 40 1 v' (ys ++ [x]).length ((ys ++ [x]).map (Value.int .i32))
          have e2 : (ys ++ [x]).length = m + 1 := by simp [HM.out]
          rw [e2, List.map_append]; exact hown'
        clear hown' hgrow hnil' hb1
        go_wp2
        go_roundw
        case rel => exact ⟨k + 1, by omega, by go_num, by rw [HS'.out]; exact HO1.out, HB1.out⟩
        case measure => simp [intOf]; omega
    · clear hown hbel
      go_wp2
      go_ret
      have e : xs.take k = xs := List.take_of_length_le (by rw [HN.out]; omega)
      rw [e] at HO
      exact ⟨_, rfl, HO.out, HBel.out⟩

end Go.Proofs.Ytccbcijkahnkkaa
