/- Rows of steps in memory; how many there are. -/
import Derived.Test.YtmgeoeajnpnadaaMayR
namespace Lra
theorem items_nil : items [] = 0 := rfl
theorem items_cons (s : Stp) (ss : List Stp) : items (s :: ss) = s.lits.length + s.hints.length + items ss := by simp [items]
theorem items_app (xs ys : List Stp) : items (xs ++ ys) = items xs + items ys := by simp [items]
theorem items_take (ss : List Stp) (k : Nat) (h : k < ss.length) : items (ss.take (k + 1)) = items (ss.take k) + (ss[k].lits.length + ss[k].hints.length) := by
  rw [List.take_succ_eq_append_getElem h, items_app]
  simp [items]
theorem items_le (ss : List Stp) (k : Nat) : items (ss.take k) ≤ items ss := by
  conv => rhs; rw [← List.take_append_drop k ss, items_app]
  omega
end Lra
namespace Go.Proofs.Ytmgeoeajnpnadaa
open Go.RowKit
set_option linter.unusedVariables false

/-- A step in memory. -/
structure StC (W : World) (b o : Nat) (s : Lra.Stp) (a1 : Option Addr) (c1 : Nat) (a2 : Option Addr) (c2 : Nat) : Prop where
  k : W.cell? ⟨b, o, none⟩ = some (.int .u8 s.kind)
  i : W.cell? ⟨b, o + 1, none⟩ = some (.int .i64 s.id)
  l : W.cell? ⟨b, o + 2, none⟩ = some (.slice a1 s.lits.length c1)
  h : W.cell? ⟨b, o + 3, none⟩ = some (.slice a2 s.hints.length c2)
  v : StpV W a1 a2 s
theorem StC.below {W W' : World} {b o : Nat} {s : Lra.Stp} {a1 : Option Addr} {c1 : Nat} {a2 : Option Addr} {c2 : Nat} (h : StC W b o s a1 c1 a2 c2) (hb : Below W.heap.size W W') : StC W' b o s a1 c1 a2 c2 := by
  have hl := cell_lt h.k
  exact ⟨(hb.cell (p := ⟨b, o, none⟩) hl).trans h.k, (hb.cell (p := ⟨b, o + 1, none⟩) hl).trans h.i, (hb.cell (p := ⟨b, o + 2, none⟩) hl).trans h.l, (hb.cell (p := ⟨b, o + 3, none⟩) hl).trans h.h, h.v.below hb⟩
/-- A row of steps. -/
def Steps (W : World) (a : Option Addr) (ss : List Lra.Stp) : Prop :=
  ss = [] ∨ ∃ b off, a = some ⟨b, off, none⟩ ∧ ∀ j (h : j < ss.length), ∃ a1 c1 a2 c2, StC W b (off + j * 4) ss[j] a1 c1 a2 c2
theorem Steps.below {W W' : World} {a : Option Addr} {ss : List Lra.Stp} (h : Steps W a ss) (hb : Below W.heap.size W W') : Steps W' a ss := by
  rcases h with h | ⟨b, off, e, h⟩
  · exact .inl h
  · refine .inr ⟨b, off, e, fun j hj => ?_⟩
    obtain ⟨a1, c1, a2, c2, h⟩ := h j hj
    exact ⟨a1, c1, a2, c2, h.below hb⟩
theorem Steps.shape {W : World} {a : Option Addr} {ss : List Lra.Stp} (h : Steps W a ss) : Hid (ss.length = 0) ∨ ∃ b off, a = some ⟨b, off, none⟩ := by
  rcases h with h' | ⟨b, off, e, _⟩
  · left; rw [h']; exact hid rfl
  · exact .inr ⟨b, off, e⟩
theorem Steps.at {W : World} {b off : Nat} {ss : List Lra.Stp} (h : Steps W (some ⟨b, off, none⟩) ss) {j : Nat} (hj : j < ss.length) : ∃ a1 c1 a2 c2, StC W b (off + j * 4) ss[j] a1 c1 a2 c2 := by
  rcases h with h' | ⟨b', off', e, h⟩
  · rw [h'] at hj; simp at hj
  · cases e; exact h j hj
set_option maxRecDepth 100000 in
set_option maxHeartbeats 4000000 in
theorem tooMany17 (a : Option Addr) (n c : Nat) (ss : List Lra.Stp) (w : World) (hn : ss.length = n) (hb : n ≤ 4194304) (hs : Steps w a ss) (hi : Lra.items ss ≤ 1099511627776) :
    Calls Try.prog 17 #[.slice a n c] w fun e w' => e = .returned (.bool (decide (16777216 < Lra.items ss))) ∧ Below w.heap.size w w' := by
  have HS := hid hs
  have HN := hid hn
  have sh := hs.shape
  rw [hn] at sh
  clear hs hn
  obtain ⟨r, hr⟩ : ∃ r, Lra.items ss = r := ⟨_, rfl⟩
  have HR := hid hr
  rw [hr] at hi ⊢
  clear hr
  rcases sh with Z | ⟨b, off, rfl⟩
  all_goals
    go_enter Try.func17, Try.ntmps17
    go_wp2
    go_loopw [3, 11] (fun mv iv wr => ∃ k m : Nat, mv = .int .i64 m ∧ iv = .int .i64 k ∧ k ≤ n ∧ m ≤ 1099511627776 ∧ Hid (m = Lra.items (ss.take k)) ∧ Hid (Below w.heap.size w wr)) (fun _ iv _ => n - (intOf iv).toNat)
    case atStart => exact ⟨0, 0, rfl, rfl, by omega, by omega, hid (by simp [Lra.items]), hid (Below.refl _ _)⟩
    case round =>
      obtain ⟨k, m, rfl, rfl, hk, hm, HM, HB⟩ := hrel
      by_cases hlt : k < n
      · have hlt' : (k : Int) < n := by omega
        first
        | (exfalso; have := Z.out; omega)
        | (have hks : k < ss.length := by rw [HN.out]; exact hlt
           obtain ⟨a1, c1, a2, c2, hst⟩ := (HS.out.below HB.out).at (j := k) hks
           have HT := hid (Lra.items_take ss k hks)
           have hle := Lra.items_le ss (k + 1)
           rw [HT.out, ← HM.out, HR.out] at hle
           obtain ⟨x0, x1, x2, x3, _⟩ := hst
           generalize ss[k] = s at x0 x1 x2 x3 HT hle
           generalize s.lits.length = n1 at x2 HT hle
           generalize s.hints.length = n2 at x3 HT hle
           generalize s.kind = kd at x0
           generalize s.id = id at x1
           go_wp2
           go_roundw
           case rel => exact ⟨k + 1, m + (n1 + n2), by go_num, by go_num, by omega, by omega, hid (by rw [HT.out, HM.out]), hid (HB.out.alloc HB.out.size _)⟩
           case measure => simp [intOf]; omega)
      · have hlt' : ¬ (k : Int) < n := by omega
        have hmr : m = r := by rw [HM.out, ← HR.out, List.take_of_length_le (by rw [HN.out]; omega)]
        subst hmr
        go_wp2
        go_ret
        exact ⟨congrArg (fun b => Ending.returned (.bool b)) (by rw [decide_eq_decide]; omega), HB.out⟩
end Go.Proofs.Ytmgeoeajnpnadaa
