/- in: is a number in a row? Rows that are kept. -/
import Derived.Test.YtjnifadfcnpdoaaRwP
namespace Go.Proofs.Ytjnifadfcnpdoaa
open Go.RowKit Go.Maps
set_option linter.unusedVariables false
set_option maxRecDepth 100000

set_option maxHeartbeats 2000000 in
theorem in19 {W : World} {a : Option Addr} {c : Nat} {xs : List Int} (h1 : Iw W a xs) (h8 : xs.length ≤ 1048576) (v : Int) :
    Calls Try.prog 19 #[.slice a xs.length c, .int .i64 v] W fun e w' => e = .returned (.bool (decide (v ∈ xs))) ∧ w' = W := by
  have hsh : Hid (xs.length = 0) ∨ ∃ b' off, a = some ⟨b', off, none⟩ := by
    rcases Nat.eq_zero_or_pos xs.length with h | h
    · exact .inl h
    · exact .inr (h1.blk h)
  have H1 := hid (fun (b off : Nat) (e : a = some ⟨b, off, none⟩) (k : Nat) (hk : k < xs.length) => (e ▸ h1 : Iw W (some ⟨b, off, none⟩) xs).at hk)
  obtain ⟨t, ht⟩ : ∃ t, xs.length = t := ⟨_, rfl⟩
  have HT := hid ht
  obtain ⟨D, hD⟩ : ∃ D, decide (v ∈ xs) = D := ⟨_, rfl⟩
  have HD := hid hD
  rw [ht] at h8 hsh ⊢
  rw [hD]
  clear h1 ht hD
  go_enter Try.func19, Try.ntmps19
  go_wp2
  rcases hsh with Z | ⟨b, off, hb⟩
  case' inr => subst hb
  all_goals
    go_loopw [5] (fun i wr => ∃ k : Nat, k ≤ t ∧ i = .int .i64 (k : Nat) ∧ Hid (∀ j, j < k → xs.getD j 0 ≠ v) ∧ wr = W) (fun i _ => t - (intOf i).toNat)
    case atStart => exact ⟨0, Nat.zero_le _, rfl, hid (fun j h => by omega), rfl⟩
    case round =>
      obtain ⟨k, hkt, rfl, HR, hw⟩ := hrel
      rw [hw]
      clear hw
      by_cases hlt : k < t
      · first
          | (exfalso; have := Z.out; omega)
          | (have hlt' : (k : Int) < t := by omega
             have hwk : wrap64 ((k : Int) + 1) = (k : Int) + 1 := by unfold wrap64; omega
             have hk1 : k < xs.length := by rw [HT.out]; exact hlt
             have x1 := H1.out b off rfl k hk1
             by_cases he : xs.getD k 0 = v
             · have hE := hid (show D = true from HD.out ▸ decide_eq_true (by rw [← he, List.getD_eq_getElem?_getD, List.getElem?_eq_getElem hk1]; exact List.getElem_mem hk1))
               rw [he] at x1
               have hb : (v == v) = true := by simp
               clear he hk1
               go_wp2
               go_ret
               exact ⟨by rw [hE.out]; rfl, rfl⟩
             · have HN := hid (show ∀ j, j < k + 1 → xs.getD j 0 ≠ v from fun j h => by
                 by_cases e : j = k
                 · rw [e]; exact he
                 · exact HR.out j (by omega))
               generalize xs.getD k 0 = x at *
               have hb : (x == v) = false := by simpa using he
               clear he hk1
               go_wp2_with (fail)
               exact ⟨⟨k + 1, hlt, by first | rfl | (rw [hwk]; rfl), HN, by first | trivial | rfl⟩, by first | (simp only [intOf]; exact meas hlt) | (rw [hwk]; simp only [intOf]; exact meas hlt)⟩)
      · have hge : ¬ (k : Int) < t := by omega
        have hE := hid (show D = false from HD.out ▸ decide_eq_false (fun hm => by
          obtain ⟨j, hj, e⟩ := List.mem_iff_getElem.1 hm
          refine HR.out j (by rw [HT.out] at hj; omega) ?_
          rw [List.getD_eq_getElem?_getD, List.getElem?_eq_getElem hj, e]; rfl))
        clear HR
        go_wp2
        go_ret
        exact ⟨by rw [hE.out]; rfl, rfl⟩
theorem Iw.fq {W W' : World} {a : Option Addr} {l : List Int} {Q : Nat → Prop} (h : Iw W a l) (hf : Fq Q W W') (hq : ∀ b off, a = some ⟨b, off, none⟩ → Q b) : Iw W' a l := by
  rcases h with h | ⟨b, off, rfl, h⟩
  · exact .inl h
  · refine .inr ⟨b, off, rfl, fun j hj => ?_⟩
    have hc := h j hj
    have hl := cell_lt hc
    obtain ⟨o, ho⟩ : ∃ o, W.heap[b]? = some o := ⟨_, Array.getElem?_eq_getElem hl⟩
    rw [World.cell?] at hc ⊢
    simp only [ho] at hc
    simp only [hf.block b o ho (hq b off rfl)]
    exact hc
end Go.Proofs.Ytjnifadfcnpdoaa
