/- Records as both sides have them. -/
import Derived.Test.YtekkbpaelojmeaaLv
namespace Go.Proofs.Ytekkbpaelojmeaa
open Go.RowKit Go.Maps
set_option linter.unusedVariables false
set_option linter.unusedSimpArgs false
set_option maxRecDepth 100000

theorem blk_unlike {W : World} {base n m s1 s2 : Nat} {v u : Value} {xs ys : List Value} (h : W.ownsRow base 29 s1 v n xs) (k : W.ownsRow base 31 s2 u m ys) : ∀ q, u.ownBlock = some q → v.ownBlock ≠ some q := by
  intro q h1 h2
  obtain ⟨_, c1, e1⟩ := own_blk h h2
  obtain ⟨_, c2, e2⟩ := own_blk k h1
  rw [e1] at e2
  injection e2 with e2
  injection e2 with _ e2
  exact absurd e2 (by decide)
/-- One round: a record more in either row. -/
def RoundOut (A : World) (base k : Nat) (va vb : Value) (rs : List Rc) (r : Rc) (wr W1 : World) : Prop :=
  ∃ g1 c1 B1, (Builtin.append_ #[23, 23] 23 #[va, .slice (some ⟨W1.heap.size, 0, none⟩) 1 1]).run Try.prog (W1.alloc (.cells (rec5 r).toArray 29)) = .ok (.slice (some ⟨g1, 0, none⟩) (k + 1) c1) B1 ∧ B1.heap[wr.heap.size]? = some (.cells (rec5 r).toArray 45 (0, 0)) ∧
    ∃ g2 c2 B2, (Builtin.append_ #[24, 24] 24 #[vb, .slice (some ⟨B1.heap.size, 0, none⟩) 1 1]).run Try.prog (B1.alloc (.cells (rec5 r).toArray 31)) = .ok (.slice (some ⟨g2, 0, none⟩) (k + 1) c2) B2 ∧
      B2.ownsRow base 29 5 (.slice (some ⟨g1, 0, none⟩) (k + 1) c1) (k + 1) (flat (rs ++ [r])) ∧ B2.ownsRow base 31 5 (.slice (some ⟨g2, 0, none⟩) (k + 1) c2) (k + 1) (flat (rs ++ [r])) ∧ Below base A B2
theorem both_round {A wr W1 : World} {base k : Nat} {va vb : Value} {rs : List Rc} {r : Rc} (ha : wr.ownsRow base 29 5 va k (flat rs)) (hb : wr.ownsRow base 31 5 vb k (flat rs)) (hbel : Below base A wr) (hbase : base ≤ wr.heap.size) (hk : k ≤ 1000000) (hW1 : wr.alloc (.cells (rec5 r).toArray 45) = W1) : RoundOut A base k va vb rs r wr W1 := by
  have h01 : Below wr.heap.size wr W1 := by rw [← hW1]; exact below_box _ _
  have hs1 : W1.heap.size = wr.heap.size + 1 := by rw [← hW1]; simp
  have hbx1 : W1.heap[wr.heap.size]? = some (.cells (rec5 r).toArray 45 (0, 0)) := by rw [← hW1]; exact heap_alloc_new wr _
  obtain ⟨g1, c1, B1, r1, o1, gr1, _⟩ := push29 (own_below ha h01) r (by omega) (by omega)
  have h12 : Below base W1 B1 := PushOut.below (T := 23) (base := base) (k := k) (rs := []) (Below.refl _ _) (by omega) (fun q hq => (own_blk ha hq).1) gr1
  have hb1 : B1.ownsRow base 31 5 vb k (flat rs) := own_grown2 ((own_below hb h01).alloc _) gr1 (blk_unlike (own_below ha h01) (own_below hb h01))
  have hs2 : W1.heap.size + 1 ≤ B1.heap.size := by have := gr1.size; simpa using this
  have hbx2 : B1.heap[wr.heap.size]? = some (.cells (rec5 r).toArray 45 (0, 0)) := by
    refine (gr1.block _ (by simp; omega) (fun e => ?_)).trans (((below_box W1 _).block _ (lt_of_blk hbx1)).trans hbx1)
    obtain ⟨_, cur, h2⟩ := own_blk (own_below ha h01) e.symm
    rw [hbx1] at h2
    injection h2 with h2
    injection h2 with _ h2
    exact absurd h2 (by decide)
  obtain ⟨g2, c2, B2, r2, o2, gr2, _⟩ := push31 hb1 r (by omega) (by omega)
  have h23 : Below base B1 B2 := PushOut.below (T := 24) (base := base) (k := k) (rs := []) (Below.refl _ _) (by omega) (fun q hq => (own_blk hb1 hq).1) gr2
  refine ⟨g1, c1, B1, r1, hbx2, g2, c2, B2, r2, ?_, o2, ((hbel.trans (h01.mono hbase)).trans h12).trans h23⟩
  exact own_grown2 (o1.alloc _) gr2 (fun q h1 h2 => blk_unlike o1 hb1 q h2 h1)
def BothOut (base n : Nat) (rs : List Rc) (e : Ending) (w' : World) : Prop := ∃ o1 c1 o2 c2, e = .returned (.tuple #[.slice o1 n c1, .slice o2 n c2]) ∧ w'.ownsRow base 29 5 (.slice o1 n c1) n (flat rs) ∧ w'.ownsRow base 31 5 (.slice o2 n c2) n (flat rs)
set_option maxHeartbeats 4000000 in
theorem both7 {W : World} {a : Option Addr} {n c : Nat} {rs : List Rc} (hx : Rcs W a rs) (hn : rs.length = n) (hN : n ≤ 1000000) :
    Calls Try.prog 7 #[.slice a n c] W fun e w' => BothOut W.heap.size n rs e w' ∧ Below W.heap.size W w' := by
  have HX := hid (fun X (hX : Below W.heap.size W X) => hx.below hX)
  have HN := hid hn
  have sh : Hid (n = 0) ∨ ∃ b off, a = some ⟨b, off, none⟩ := by
    rcases hx.shape with h | h
    · left; rw [hn] at h; exact h
    · exact .inr h
  clear hx hn
  rcases sh with Z | ⟨b, off, rfl⟩
  all_goals
    go_enter Try.func7, Try.ntmps7
    go_wp2_with fail
    go_loopw [4, 5, 6] (fun av bv iv wr => ∃ (k : Nat) (ao bo : Option Addr) (ac bc : Nat), k ≤ n ∧ iv = .int .i64 k ∧ av = .slice ao k ac ∧ bv = .slice bo k bc ∧ Hid (wr.ownsRow W.heap.size 29 5 (.slice ao k ac) k (flat (rs.take k))) ∧ Hid (wr.ownsRow W.heap.size 31 5 (.slice bo k bc) k (flat (rs.take k))) ∧ Hid (Below W.heap.size W wr)) (fun _ _ iv _ => n - (intOf iv).toNat)
    case atStart => exact ⟨0, none, none, 0, 0, Nat.zero_le _, rfl, rfl, rfl, hid (World.ownsRow_nil _ _ _ _), hid (World.ownsRow_nil _ _ _ _), hid (Below.refl _ _)⟩
    case round =>
      obtain ⟨k, ao, bo, ac, bc, hk, rfl, rfl, rfl, HA, HB, HW⟩ := hrel
      by_cases hlt : k < n
      · first
        | (exfalso; have := Z.out; omega)
        | (have hlt' : (k : Int) < n := by omega
           have hkx : k < rs.length := by rw [HN.out]; exact hlt
           obtain ⟨hok, x0, x1, x2, x3, x4⟩ := (HX.out wr HW.out).at hkx
           have HTK := hid (show rs.take (k + 1) = rs.take k ++ [rs[k]] from List.take_succ_eq_append_getElem hkx)
           have HR := hid (fun W1 (h : wr.alloc (.cells (rec5 rs[k]).toArray 45) = W1) => both_round HA.out HB.out HW.out HW.out.size (by omega) h)
           generalize rs[k] = r at *
           obtain ⟨⟨id, lb, sz, us⟩, lk⟩ := r
           dsimp only [rec5] at x0 x1 x2 x3 x4 HR
           obtain ⟨W1, hW1⟩ : ∃ W1, wr.alloc (.cells #[.int .i64 id, .int .i64 lb, .int .i64 sz, .int .i64 us, .bool lk] 45) = W1 := ⟨_, rfl⟩
           obtain ⟨g1, c1, B1, r1, hbx, g2, c2, B2, r2, o1, o2, hb⟩ := HR.out W1 hW1
           dsimp only [rec5] at r1 r2 hbx
           have hbx0 : W1.heap[wr.heap.size]? = some (.cells #[.int .i64 id, .int .i64 lb, .int .i64 sz, .int .i64 us, .bool lk] 45 (0, 0)) := by rw [← hW1]; exact heap_alloc_new wr _
           have p0 : W1.cell? ⟨wr.heap.size, 0, none⟩ = some (.int .i64 id) := row_cell hbx0 0
           have p1 : W1.cell? ⟨wr.heap.size, 1, none⟩ = some (.int .i64 lb) := row_cell hbx0 1
           have p2 : W1.cell? ⟨wr.heap.size, 2, none⟩ = some (.int .i64 sz) := row_cell hbx0 2
           have p3 : W1.cell? ⟨wr.heap.size, 3, none⟩ = some (.int .i64 us) := row_cell hbx0 3
           have p4 : W1.cell? ⟨wr.heap.size, 4, none⟩ = some (.bool lk) := row_cell hbx0 4
           have q0 : B1.cell? ⟨wr.heap.size, 0, none⟩ = some (.int .i64 id) := row_cell hbx 0
           have q1 : B1.cell? ⟨wr.heap.size, 1, none⟩ = some (.int .i64 lb) := row_cell hbx 1
           have q2 : B1.cell? ⟨wr.heap.size, 2, none⟩ = some (.int .i64 sz) := row_cell hbx 2
           have q3 : B1.cell? ⟨wr.heap.size, 3, none⟩ = some (.int .i64 us) := row_cell hbx 3
           have q4 : B1.cell? ⟨wr.heap.size, 4, none⟩ = some (.bool lk) := row_cell hbx 4
           have R1 := hid r1
           have R2 := hid r2
           have HA2 := hid o1
           have HB2 := hid o2
           have HW2 := hid hb
           clear r1 r2 o1 o2 hb hbx hbx0 HR hok HA HB
           go_wp2_with (at_builtin; first
             | (refine wpList_append_run rfl (.tmp 18) (.tmp 30) 23 23 rfl rfl rfl R1.out ?_)
             | (refine wpList_append_run rfl (.tmp 32) (.tmp 44) 24 24 rfl rfl rfl R2.out ?_))
           go_roundw
           case rel => exact ⟨k + 1, some ⟨g1, 0, none⟩, some ⟨g2, 0, none⟩, c1, c2, by omega, by go_num, rfl, rfl, hid (by rw [HTK.out]; exact HA2.out), hid (by rw [HTK.out]; exact HB2.out), HW2⟩
           case measure => simp [intOf]; omega)
      · have hge : ¬ (k : Int) < n := by omega
        have hkn : k = n := by omega
        subst hkn
        have HT := hid (show rs.take k = rs from List.take_of_length_le (by rw [HN.out]; omega))
        have HA2 := hid (show wr.ownsRow W.heap.size 29 5 (.slice ao k ac) k (flat rs) by have := HA.out; rw [HT.out] at this; exact this)
        have HB2 := hid (show wr.ownsRow W.heap.size 31 5 (.slice bo k bc) k (flat rs) by have := HB.out; rw [HT.out] at this; exact this)
        clear HA HB
        go_wp2
        go_ret2
        exact ⟨⟨ao, ac, bo, bc, rfl, HA2.out, HB2.out⟩, HW.out⟩
end Go.Proofs.Ytekkbpaelojmeaa
