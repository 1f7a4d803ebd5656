/- The queue as its calls see it: a row, and stamps. -/
import Derived.Test.YtjnifadfcnpdoaaQuC
namespace Go.Proofs.Ytjnifadfcnpdoaa
open Go.RowKit Go.Maps
set_option linter.unusedVariables false
set_option maxRecDepth 100000

/-- What holds of a queue beside its memory. -/
structure Qg (n : Nat) (K : Int) (L ah bh : List Nat) (rk st : List Int) (lk : Nat) : Prop where
  mx : n ≤ 1048576
  ch : Qp.Ch bh ah 0 L 0
  nd : L.Nodup
  rg : ∀ v ∈ L, 1 ≤ v ∧ v ≤ n
  rs : L.Pairwise (fun a b => rk.getD a 0 < rk.getD b 0)
  rb : ∀ x, 0 ≤ rk.getD x 0 ∧ rk.getD x 0 ≤ K
  sb : ∀ x, 0 ≤ st.getD x 0 ∧ st.getD x 0 ≤ K
  lk : lk ≤ n
  kb : K ≤ 4611686018427387904
def Qx (A : Adr) (n : Nat) (K : Int) (L : List Nat) (st : List Int) (W : World) : Prop := ∃ ah bh rk lk, Qr A (n + 1) ah bh rk st lk W ∧ Qg n K L ah bh rk st lk
theorem Qx.keep {A : Adr} {n : Nat} {K : Int} {L : List Nat} {st : List Int} {W W' : World} {Q : Nat → Prop} (H : Qx A n K L st W) (hf : Fq Q W W') (hq : ∀ g, A.own g → Q g) : Qx A n K L st W' := by
  obtain ⟨ah, bh, rk, lk, h1, h2⟩ := H
  exact ⟨ah, bh, rk, lk, h1.keep hf hq, h2⟩
theorem Qx.below {A : Adr} {n : Nat} {K : Int} {L : List Nat} {st : List Int} {W W' : World} (H : Qx A n K L st W) (h : Below W.heap.size W W') : Qx A n K L st W' := by
  obtain ⟨ah, bh, rk, lk, h1, h2⟩ := H
  exact ⟨ah, bh, rk, lk, h1.below h, h2⟩
theorem Qx.lt {A : Adr} {n : Nat} {K : Int} {L : List Nat} {st : List Int} {W : World} (H : Qx A n K L st W) {g : Nat} (hg : A.own g) : g < W.heap.size := by
  obtain ⟨ah, bh, rk, lk, h1, h2⟩ := H
  exact h1.lt hg
theorem last_lt {n : Nat} {L : List Nat} (h : ∀ v ∈ L, 1 ≤ v ∧ v ≤ n) : L.getLastD 0 < n + 1 := by
  rcases Qp.lastD_mem L 0 with k | k
  · rw [k]; omega
  · have := h _ k; omega
theorem head_lt {n : Nat} {L : List Nat} (h : ∀ v ∈ L, 1 ≤ v ∧ v ≤ n) : L.headD 0 < n + 1 := by
  rcases Qp.headD_mem L 0 with k | k
  · rw [k]; omega
  · have := h _ k; omega
/-- One taken out. -/
theorem Qx.out {A : Adr} {n : Nat} {K : Int} {L : List Nat} {st : List Int} {W : World} (H : Qx A n K L st W) {v : Nat} (hv : v ∈ L) :
    Calls Try.prog 37 #[.pointer (some ⟨A.qb, 0, none⟩), .int .i64 (v : Int)] W fun e w' => e = .returned (.tuple #[]) ∧ Qx A n K (L.erase v) st w' ∧ Fa A W w' := by
  obtain ⟨ah, bh, rk, lk, h1, h2⟩ := H
  obtain ⟨l1, l2, hL, hl1⟩ := List.append_of_mem hv |>.elim fun l1 h => h.elim fun l2 h => (show ∃ l1 l2, L = l1 ++ v :: l2 ∧ v ∉ l1 from ⟨l1, l2, h, fun hm => by
    have := h2.nd
    rw [h] at this
    exact (List.nodup_append.1 this).2.2 v hm v (.head _) rfl⟩)
  have hE : L.erase v = l1 ++ l2 := by rw [hL, List.erase_append_right _ hl1, List.erase_cons_head]
  obtain ⟨c1, c2⟩ := Qp.Ch.split.1 (by have := h2.ch; rw [hL] at this; exact this)
  have hr := h2.rg v hv
  have r1 : ∀ x ∈ l1, 1 ≤ x ∧ x ≤ n := fun x hx => h2.rg x (by rw [hL]; exact List.mem_append.2 (.inl hx))
  have r2 : ∀ x ∈ l2, 1 ≤ x ∧ x ≤ n := fun x hx => h2.rg x (by rw [hL]; exact List.mem_append.2 (.inr (.tail _ hx)))
  have hnd : (l1 ++ l2).Nodup := by rw [← hE]; exact h2.nd.sublist List.erase_sublist
  refine (takeOut37 h1 (v := v) (by omega) (last_lt r1) (head_lt r2) c1.last c2.first).mono ?_
  rintro e w' ⟨rfl, q1, q2⟩
  refine ⟨rfl, ⟨_, _, rk, lk, q1, ⟨h2.mx, ?_, h2.nd.sublist List.erase_sublist, fun x hx => h2.rg x (List.mem_of_mem_erase hx), h2.rs.sublist List.erase_sublist, h2.rb, h2.sb, h2.lk, h2.kb⟩⟩, q2⟩
  rw [hE]
  have hlen := h1.len
  exact Qp.Ch.out hlen.2.1 hlen.1 c1 c2 (by omega) (by omega) (fun x hx => by have := r1 x hx; omega) (fun x hx => by have := r2 x hx; omega) (fun h => by have := r1 0 h; omega) (fun h => by have := r2 0 h; omega) hnd (fun h => by have := r1 0 h; omega) (fun h => by have := r2 0 h; omega)
theorem getLastD_rk {rk : List Int} : ∀ {L : List Nat} {a : Nat}, (a :: L).Pairwise (fun a b => rk.getD a 0 < rk.getD b 0) → ∀ x ∈ a :: L, rk.getD x 0 ≤ rk.getD (L.getLastD a) 0
  | [], a, h, x, hx => by
    rcases List.mem_cons.1 hx with rfl | hx
    · exact Int.le_refl _
    · cases hx
  | y :: L, a, h, x, hx => by
    rw [List.getLastD_cons]
    obtain ⟨h1, h2⟩ := List.pairwise_cons.1 h
    rcases List.mem_cons.1 hx with rfl | hx
    · have := h1 y (.head _)
      have := getLastD_rk h2 y (.head _)
      omega
    · exact getLastD_rk h2 x hx
/-- One put behind all. -/
theorem Qx.put {A : Adr} {n : Nat} {K : Int} {L : List Nat} {st : List Int} {W : World} (H : Qx A n K L st W) (hk : K + 1 ≤ 4611686018427387904) {v : Nat} (hv : v ∉ L) (h1v : 1 ≤ v) (hvn : v ≤ n) :
    Calls Try.prog 24 #[.pointer (some ⟨A.qb, 0, none⟩), .int .i64 (v : Int)] W fun e w' => e = .returned (.tuple #[]) ∧ Qx A n (K + 1) (L ++ [v]) st w' ∧ Fa A W w' := by
  obtain ⟨ah, bh, rk, lk, h1, h2⟩ := H
  have hlen := h1.len
  have hrb := h2.rb (L.getLastD 0)
  refine (putLast24 h1 (v := v) (by omega) (last_lt h2.rg) h2.ch.last ⟨hrb.1, Int.le_trans hrb.2 h2.kb⟩).mono ?_
  rintro e w' ⟨rfl, q1, q2⟩
  have hset : ∀ x, (rk.set v (rk.getD (L.getLastD 0) 0 + 1)).getD x 0 = if x = v then rk.getD (L.getLastD 0) 0 + 1 else rk.getD x 0 := fun x => Qp.setI _ _ _ (by omega) x
  refine ⟨rfl, ⟨_, _, _, lk, q1, ⟨h2.mx, ?_, ?_, ?_, ?_, ?_, ?_, h2.lk, hk⟩⟩, q2⟩
  · exact Qp.Ch.put hlen.2.1 hlen.1 (by omega) (by omega) (by omega) h2.ch (by omega) (fun x hx => by have := h2.rg x hx; omega) (fun h => by have := h2.rg 0 h; omega) h2.nd (by omega) hv (fun h => by have := h2.rg 0 h; omega)
  · exact List.nodup_append.2 ⟨h2.nd, by simp, fun a ha b hb => by rintro rfl; rw [List.mem_singleton.1 hb] at ha; exact hv ha⟩
  · intro x hx
    rcases List.mem_append.1 hx with h | h
    · exact h2.rg x h
    · rw [List.mem_singleton.1 h]; omega
  · refine List.pairwise_append.2 ⟨h2.rs.imp_of_mem (fun {a b} ha hb hab => ?_), by simp, fun a ha b hb => ?_⟩
    · rw [hset, hset, if_neg (fun e : a = v => hv (e ▸ ha)), if_neg (fun e : b = v => hv (e ▸ hb))]; exact hab
    · rw [List.mem_singleton.1 hb, hset, hset, if_neg (fun e : a = v => hv (e ▸ ha)), if_pos rfl]
      cases L with
      | nil => cases ha
      | cons y L =>
        have := getLastD_rk h2.rs a ha
        rw [List.getLastD_cons]
        omega
  · intro x
    rw [hset]
    split
    · omega
    · have := h2.rb x; omega
  · intro x
    have := h2.sb x; omega
end Go.Proofs.Ytjnifadfcnpdoaa
