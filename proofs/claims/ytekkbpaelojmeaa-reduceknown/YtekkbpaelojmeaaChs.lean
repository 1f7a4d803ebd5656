/- Choose. -/
import Derived.Test.YtekkbpaelojmeaaGng
import Derived.Test.YtekkbpaelojmeaaSrt
import Derived.Test.YtekkbpaelojmeaaIdB
namespace Go.Proofs.Ytekkbpaelojmeaa
open Go.RowKit Go.Maps
set_option linter.unusedVariables false
set_option linter.unusedSimpArgs false
set_option maxRecDepth 100000

theorem Rcs.take {W : World} {a : Option Addr} {rs : List Rc} (h : Rcs W a rs) (q : Nat) : Rcs W a (rs.take q) := by
  rcases h with h | ⟨b, off, e, hl, hc⟩
  · left; rw [h]; simp
  · refine .inr ⟨b, off, e, hl, fun j hj => ?_⟩
    have hj2 : j < rs.length := by simp at hj; omega
    rw [List.getElem_take]
    exact hc j hj2
theorem filter_toRc (rs : List Rc) (g : Int) : ((rs.filter (fun r => mayP r g)).map Rc.k).map toRc = rs.filter (fun r => mayP r g) := by
  rw [List.map_map]
  conv => rhs; rw [← List.map_id (rs.filter (fun r => mayP r g))]
  refine List.map_congr_left fun r hr => ?_
  have := (mayP_true (List.mem_filter.1 hr).2).1
  obtain ⟨k, lk⟩ := r
  show toRc k = ⟨k, lk⟩
  rw [show lk = false from this]
  rfl
theorem ord_srt (g : Int) (rs : List Rc) : ord g rs = srt ((rs.filter (fun r => mayP r g)).map Rc.k) := rfl
theorem ord_ok {g : Int} {rs : List Rc} (hok : ∀ r ∈ rs, r.Ok) : ∀ r ∈ (ord g rs).map toRc, r.Ok := by
  intro r hr
  obtain ⟨x, hx, rfl⟩ := List.mem_map.1 hr
  obtain ⟨y, hy, rfl⟩ := List.mem_map.1 ((ord_perm g rs).mem_iff.1 hx)
  have := hok y (List.mem_filter.1 hy).1
  exact ⟨this.id, this.lb, this.sz, this.us⟩
theorem Rcs.ok {W : World} {a : Option Addr} {rs : List Rc} (h : Rcs W a rs) : ∀ r ∈ rs, r.Ok := by
  intro r hr
  obtain ⟨j, hj, rfl⟩ := List.mem_iff_getElem.1 hr
  rcases h with h | ⟨b, off, e, hl, hc⟩
  · rw [h] at hj; simp at hj
  · exact (hc j hj).1
theorem own_cap5 {W : World} {base e n : Nat} {o : Option Addr} {c : Nat} {xs : List Value} (h : W.ownsRow base e 5 (.slice o n c) n xs) : n ≤ c ∧ c ≤ 9223372036854775807 := by
  rcases h.2 with ⟨e1, h0⟩ | ⟨g, c', cur, e1, h1, h2, h3, h4, h5, h6⟩
  · cases e1; omega
  · cases e1; unfold maxLen at h4; omega
theorem part_int (m p : Nat) : ((m : Int) * (p : Int)).tdiv 100 = ((part m (p : Int) : Nat) : Int) := by
  rw [Int.tdiv_eq_ediv_of_nonneg (Int.mul_nonneg (by omega) (by omega))]
  unfold part
  simp
def ChOut (base : Nat) (xs : List Int) (e : Ending) (w' : World) : Prop := ∃ o, e = .returned (.tuple #[.slice o xs.length xs.length, .int .i64 0]) ∧ w'.ownsRow base 2 1 (.slice o xs.length xs.length) xs.length (xs.map (Value.int .i64))
theorem choose10_no {W : World} {a : Option Addr} {n c : Nat} (g : Int) {p : Int} (hp : ¬ (0 ≤ p ∧ p ≤ 100)) :
    Calls Try.prog 10 #[.slice a n c, .int .i64 g, .int .i64 p] W fun e w' => e = .returned (.tuple #[.slice none 0 0, .int .i64 2]) ∧ w' = W := by
  by_cases h1 : 0 ≤ p
  · have h2 : ¬ p ≤ 100 := fun h => hp ⟨h1, h⟩
    clear hp
    go_enter Try.func10, Try.ntmps10
    go_wp2
    go_ret2
    exact ⟨rfl, rfl⟩
  · clear hp
    go_enter Try.func10, Try.ntmps10
    go_wp2
    go_ret2
    exact ⟨rfl, rfl⟩
set_option maxHeartbeats 4000000 in
theorem choose10 {W : World} {a : Option Addr} {n c : Nat} {rs : List Rc} (g : Int) (p : Int) (hx : Rcs W a rs) (hn : rs.length = n) (hN : n ≤ 1000000) (hp : 0 ≤ p ∧ p ≤ 100) :
    Calls Try.prog 10 #[.slice a n c, .int .i64 g, .int .i64 p] W fun e w' => ChOut W.heap.size (chosen rs g p) e w' ∧ Below W.heap.size W w' := by
  obtain ⟨q, rfl⟩ : ∃ q : Nat, p = q := ⟨p.toNat, by omega⟩
  have hfl : (rs.filter (fun r => mayP r g)).length ≤ n := by rw [← hn]; exact List.length_filter_le _ _
  have hol := ord_len g rs
  have C17 := hid (going17 (c := c) g hx hn (by omega))
  have HC18 := hid (fun (w1 : World) (o : Option Addr) (c1 : Nat) (ho : w1.ownsRow W.heap.size 29 5 (.slice o (rs.filter (fun r => mayP r g)).length c1) (rs.filter (fun r => mayP r g)).length (flat (rs.filter (fun r => mayP r g)))) (hb : Below W.heap.size W w1) =>
    sort18 (xs := (rs.filter (fun r => mayP r g)).map Rc.k) (by rw [filter_toRc]; exact ho) (by simp) (by omega) hb.size)
  have HC20 := hid (fun (w2 : World) (o : Option Addr) (c1 : Nat) (ho : w2.ownsRow W.heap.size 29 5 (.slice o (rs.filter (fun r => mayP r g)).length c1) (rs.filter (fun r => mayP r g)).length (flat ((srt ((rs.filter (fun r => mayP r g)).map Rc.k)).map toRc))) =>
    ids20 (c := c1) ((own_rcs ho (by simp [srt_len]) (ord_ok (g := g) hx.ok)).take (part (rs.filter (fun r => mayP r g)).length (q : Int))) rfl (by simp [srt_len]; have := part_le (n := (rs.filter (fun r => mayP r g)).length) hp.1 hp.2; omega))
  have HXS := hid (show ((((srt ((rs.filter (fun r => mayP r g)).map Rc.k)).map toRc).take (part (rs.filter (fun r => mayP r g)).length (q : Int))).map (fun r => r.k.id)) = chosen rs g (q : Int) by
    unfold chosen
    rw [hol, ord_srt, ← List.map_take, List.map_map]
    rfl)
  have HTL := hid (show (((srt ((rs.filter (fun r => mayP r g)).map Rc.k)).map toRc).take (part (rs.filter (fun r => mayP r g)).length (q : Int))).length = part (rs.filter (fun r => mayP r g)).length (q : Int) by
    have := part_le (n := (rs.filter (fun r => mayP r g)).length) hp.1 hp.2
    simp [srt_len]; omega)
  have HPI := hid (part_int (rs.filter (fun r => mayP r g)).length q)
  have hpl := part_le (n := (rs.filter (fun r => mayP r g)).length) hp.1 hp.2
  unfold GOut at C17
  generalize srt ((rs.filter (fun r => mayP r g)).map Rc.k) = S at *
  generalize flat (rs.filter (fun r => mayP r g)) = FL at *
  generalize (rs.filter (fun r => mayP r g)).length = m at *
  generalize part m (q : Int) = t at *
  have w1 : wrap64 ((m : Int) * (q : Int)) = (m : Int) * (q : Int) := by
    have : (m : Int) * (q : Int) ≤ 1000000 * 100 := Int.mul_le_mul (by omega) (by omega) (by omega) (by omega)
    have : 0 ≤ (m : Int) * (q : Int) := Int.mul_nonneg (by omega) (by omega)
    unfold wrap64; omega
  have hq2 := HPI.out
  clear hx hn
  have h1 : (0 : Int) ≤ q := by omega
  have h2 : (q : Int) ≤ 100 := by omega
  clear hp hol
  go_enter Try.func10, Try.ntmps10
  go_wp2_with (first
    | (go_at_call 17; refine C17.out.mono ?_; rintro e w3 ⟨⟨o, c1, rfl, ho⟩, hb⟩
       have HO := hid ho
       have HB := hid hb
       obtain ⟨hc1, hc2⟩ := own_cap5 ho
       clear ho hb)
    | (go_at_call 18; refine (HC18.out _ _ _ HO.out HB.out).mono ?_; rintro e w5 ⟨rfl, ho, hb⟩
       have HO2 := hid ho
       have HB2 := hid (HB.out.trans hb)
       clear ho hb)
    | (go_at_call 20; have C20 := HC20.out _ _ _ HO2.out; rw [HTL.out] at C20; refine C20.mono ?_; rintro e w6 ⟨ho, hb⟩
       rw [HXS.out] at ho
       obtain ⟨o6, rfl, ho⟩ := ho
       have HO3 := hid ho
       have HB3 := hid (HB2.out.trans (hb.mono HB2.out.size))
       clear ho hb C20))
  go_ret2
  exact ⟨⟨o6, rfl, own_base HO3.out HB2.out.size⟩, HB3.out⟩
end Go.Proofs.Ytekkbpaelojmeaa
