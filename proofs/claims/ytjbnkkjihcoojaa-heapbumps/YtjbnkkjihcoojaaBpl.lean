/- Places in rows in order, plainly. -/
import Derived.Test.YtjbnkkjihcoojaaLws
namespace Hpp
open Go.Proofs.Ytjbnkkjihcoojaa
open Classical in
/-- Where one stands in a row in order: behind those that come before it. -/
theorem plc_srt {sc : List Int} {u : Nat} : ∀ {L : List Nat}, Srt sc L → u ∈ L → plc L ((u : Int) + 1) = L.countP (fun x => decide (bef sc x u))
  | [], _, hu => by cases hu
  | a :: l, h, hu => by
    obtain ⟨h1, h2⟩ := List.pairwise_cons.1 h
    by_cases e : a = u
    · subst e
      have hz : (a :: l).countP (fun x => decide (bef sc x a)) = 0 := by
        rw [List.countP_eq_zero]
        intro x hx hd
        have hb := of_decide_eq_true hd
        rcases List.mem_cons.1 hx with rfl | hx
        · exact bef_irr _ _ hb
        · exact bef_asym (h1 x hx) hb
      rw [hz]
      exact plc_at (k := 0) (by simp) (by simp) (fun j hj => by omega)
    · have hul : u ∈ l := by
        rcases List.mem_cons.1 hu with h | h
        · exact absurd h.symm e
        · exact h
      have ih := plc_srt h2 hul
      rw [List.countP_cons_of_pos (by exact decide_eq_true (h1 u hul)), ← ih]
      have : ¬ (a : Int) + 1 = (u : Int) + 1 := by omega
      simp [plc, this]
open Classical in
theorem plc_mono {sc : List Int} {L : List Nat} {a b : Nat} (h : Srt sc L) (ha : a ∈ L) (hb : b ∈ L) (hab : bef sc a b) : plc L ((a : Int) + 1) ≤ plc L ((b : Int) + 1) := by
  rw [plc_srt h ha, plc_srt h hb]
  exact List.countP_mono_left (fun x _ hx => decide_eq_true (bef_trans (of_decide_eq_true hx) hab))
theorem bef_up {sc : List Int} {u x : Nat} {d : Int} (hu : u < sc.length) (hd : 0 ≤ d) (h : bef (sc.set u (sc.getD u 0 + d)) x u) : bef sc x u := by
  by_cases e : x = u
  · subst e; exact absurd h (bef_irr _ _)
  · unfold bef at *
    rw [setD _ _ _ hu, setD _ _ _ hu, if_pos rfl, if_neg e] at h
    omega
open Classical in
theorem plc_up {sc : List Int} {L : List Nat} {u : Nat} {d : Int} (h : Srt sc L) (hm : u ∈ L) (hu : u < sc.length) (hd : 0 ≤ d) : plc (srt (sc.set u (sc.getD u 0 + d)) L) ((u : Int) + 1) ≤ plc L ((u : Int) + 1) := by
  rw [plc_srt (srt_srt h.nodup) ((srt_perm _ _).mem_iff.2 hm), plc_srt h hm, (srt_perm _ _).countP_eq]
  exact List.countP_mono_left (fun x _ hx => decide_eq_true (bef_up hu hd (of_decide_eq_true hx)))
theorem wot_up {sc : List Int} {L : List Nat} {u : Nat} (x : Int) (h : Srt sc L) : wot (srt (sc.set u x) L) ((u : Int) + 1) = wot L ((u : Int) + 1) := by
  have hs : Srt (sc.set u x) (srt (sc.set u x) L) := srt_srt h.nodup
  rw [wot_erase hs.nodup, wot_erase h.nodup]
  refine srt_uniq (s := sc.set u x) (hs.erase u) ?_ ((srt_perm _ _).erase u)
  refine (h.erase u).imp_of_mem (fun {a b} ha hb hab => ?_)
  have ha' := (h.nodup.mem_erase_iff.1 ha).1
  have hb' := (h.nodup.mem_erase_iff.1 hb).1
  exact (bef_set x ha' hb').2 hab
/-- Halved scores that are unlike: the order of before. -/
theorem bef_half {sc : List Int} {u a b : Nat} {x : Int} (ha : a ≠ u) (hb : b ≠ u) (h : bef (halves (sc.set u x)) a b) (hne : (halves (sc.set u x)).getD a 0 ≠ (halves (sc.set u x)).getD b 0) : bef sc a b := by
  refine (bef_set x ha hb).1 ?_
  rw [halves_get, halves_get] at hne
  unfold bef at h ⊢
  rw [halves_get, halves_get] at h
  omega
end Hpp
