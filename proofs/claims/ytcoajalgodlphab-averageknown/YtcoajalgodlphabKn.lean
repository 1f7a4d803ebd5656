/- For the examples: what a filled average holds, calls of none, a bell's rounds. -/
import Derived.Test.YtcoajalgodlphabAbv
import Derived.Test.YtcoajalgodlphabBel
namespace Go.Proofs.Ytcoajalgodlphab
open Go.RowKit Go.Maps Av
set_option linter.unusedVariables false
set_option linter.unusedSimpArgs false
set_option maxRecDepth 100000

def stp (s : Nat) (q : Int × Nat) (x : Int) : Int × Nat := if x < 0 ∨ 1073741824 < x then q else (avV s (q.2 + 1) q.1 x, q.2 + 1)
def fil (s : Nat) (l : List Int) : Int × Nat := l.foldl (stp s) (0, 0)
theorem fil_succ {s : Nat} {l : List Int} {i : Nat} (h : i < l.length) : fil s (l.take (i + 1)) = stp s (fil s (l.take i)) (l.getD i 0) := by
  unfold fil
  rw [List.take_succ_eq_append_getElem h, List.foldl_append, List.getD_eq_getElem?_getD, List.getElem?_eq_getElem h]
  rfl
def FillX (b s : Nat) (l : List Int) (W : World) (e : Ending) (w' : World) : Prop := e = .returned (.pointer (some ⟨b, 0, none⟩)) ∧ Am 39 b s (fil s l).1 (fil s l).2 w' ∧ Ok s (fil s l).1 (fil s l).2 ∧ Below b W w'
set_option maxHeartbeats 4000000 in
theorem filled16x {s : Nat} {W : World} {a : Option Addr} {l : List Int} {c : Nat} (hs : s ≤ 30) (hl : l.length ≤ 1000) (hI : Iw W a l) :
    Calls Try.prog 4 #[.int .i64 (s : Int), .slice a l.length c] W fun e w' => FillX W.heap.size s l W e w' := by
  have C := hid (new10_ok s W hs)
  obtain ⟨b, hb⟩ : ∃ b, W.heap.size = b := ⟨_, rfl⟩
  rw [hb] at C ⊢
  have HB := hid hb
  have HI := hid hI
  have hsh : Hid (l.length = 0) ∨ ∃ gb off, a = some ⟨gb, off, none⟩ := by
    rcases hI with rfl | ⟨gb, off, e, _⟩
    · exact .inl rfl
    · exact .inr ⟨gb, off, e⟩
  obtain ⟨n, hn⟩ : ∃ n, l.length = n := ⟨_, rfl⟩
  have HN := hid hn
  rw [hn] at hl hsh ⊢
  have hnI : (n : Int) ≤ 1000 := by omega
  have HS := hid hs
  have HF := hid (fun (i : Nat) (h : i < l.length) => fil_succ (s := s) h)
  obtain ⟨sI, hsI⟩ : ∃ sI : Int, (s : Int) = sI := ⟨_, rfl⟩
  rw [hsI] at C ⊢
  clear hI hs hb hl hn hsI
  rcases hsh with Z | ⟨gb, off, rfl⟩
  all_goals
    go_enter Try.func4, Try.ntmps4
    go_wp2_with (go_at_call 12; refine C.out.mono ?_; rintro e w1 ⟨rfl, a1, b1⟩)
    have HA := hid a1
    have HB1 := hid b1
    clear C a1 b1
    go_loopw [7] (fun iv wr => ∃ (i : Nat), i ≤ n ∧ iv = .int .i64 (i : Int) ∧ Hid (Am 39 b s (fil s (l.take i)).1 (fil s (l.take i)).2 wr ∧ Ok s (fil s (l.take i)).1 (fil s (l.take i)).2 ∧ (fil s (l.take i)).2 ≤ i ∧ Below b W wr)) (fun iv _ => n - (intOf iv).toNat)
    case atStart => exact ⟨0, Nat.zero_le _, rfl, hid ⟨HA.out, ok0 HS.out, Nat.le_refl _, HB1.out⟩⟩
    case round =>
      obtain ⟨i, hi, rfl, HR⟩ := hrel
      by_cases hlt : i < n
      · first
        | (exfalso; have := Z.out; omega)
        | (obtain ⟨h1, h2, h3, h4⟩ := HR.out
           have hx : wr.cell? ⟨gb, off + i, none⟩ = some (.int .i64 (l.getD i 0)) := by
             rcases HI.out with e | ⟨g, o, e, hc⟩
             · have := HN.out; rw [e] at this; simp at this; omega
             · cases e
               have hnn := HN.out
               have hbl := HB.out
               have hlt2 := cell_lt (hc i (by omega))
               rw [h4.cell (p := ⟨gb, off + i, none⟩) (show gb < b by omega)]
               exact hc i (by omega)
           have hltI : (i : Int) < n := by omega
           have hwi : wrap64 ((i : Int) + 1) = (i : Int) + 1 := by unfold wrap64; omega
           have hst := HF.out i (by have := HN.out; omega)
           generalize l.getD i 0 = x at hx hst
           by_cases hxr : x < 0 ∨ 1073741824 < x
           · have hst2 : fil s (l.take (i + 1)) = fil s (l.take i) := by rw [hst]; unfold stp; rw [if_pos hxr]
             have HST := hid hst2
             have C := hid (add12_no (b := b) wr hxr)
             clear hxr h1 h2 h3 h4 hst hst2
             go_wp2_with (go_at_call 6; refine C.out.mono ?_; rintro e w7 ⟨rfl, hw7⟩; rw [hw7]; clear hw7)
             go_roundw
             case rel => exact ⟨i + 1, hlt, by go_num, hid (by rw [HST.out]; exact ⟨HR.out.1, HR.out.2.1, Nat.le_succ_of_le HR.out.2.2.1, HR.out.2.2.2⟩)⟩
             case measure => simp [intOf]; omega
           · have hst2 : fil s (l.take (i + 1)) = (avV s ((fil s (l.take i)).2 + 1) (fil s (l.take i)).1 x, (fil s (l.take i)).2 + 1) := by rw [hst]; unfold stp; rw [if_neg hxr]
             have HST := hid hst2
             have C := hid (add12_ok h1 h2 (x := x) (by omega) (by omega))
             have HO := hid (h2.add (x := x) (by omega) (by omega) (by omega))
             have HZ := hid (show b ≤ wr.heap.size from by have := h4.size; have := HB.out; omega)
             clear hxr h1 h2 h3 h4 hst hst2
             go_wp2_with (go_at_call 6; refine C.out.mono ?_; rintro e w7 ⟨rfl, a7, f7⟩)
             go_roundw
             case rel => exact ⟨i + 1, hlt, by go_num, hid (by rw [HST.out]; exact ⟨a7, HO.out, Nat.succ_le_succ HR.out.2.2.1, HR.out.2.2.2.trans (f7.bel HZ.out (Nat.le_refl _))⟩)⟩
             case measure => simp [intOf]; omega)
      · have hltI : ¬ (i : Int) < n := by omega
        have HE := hid (show l.take i = l from List.take_of_length_le (by have := HN.out; omega))
        go_wp2
        go_ret
        exact ⟨rfl, HE.out ▸ HR.out.1, HE.out ▸ HR.out.2.1, HR.out.2.2.2⟩
theorem add12_nil (x : Int) (W : World) : Calls Try.prog 6 #[.pointer none, .int .i64 x] W fun e w' => e = .returned (.int .i64 1) ∧ w' = W := by
  go_enter Try.func6, Try.ntmps6
  go_wp2
  go_ret
  exact ⟨rfl, rfl⟩
theorem value14_nil (W : World) : Calls Try.prog 5 #[.pointer none] W fun e w' => e = .returned (.int .i64 0) ∧ w' = W := by
  go_enter Try.func5, Try.ntmps5
  go_wp2
  go_ret
  exact ⟨rfl, rfl⟩
theorem count15_nil (W : World) : Calls Try.prog 7 #[.pointer none] W fun e w' => e = .returned (.int .i64 0) ∧ w' = W := by
  go_enter Try.func7, Try.ntmps7
  go_wp2
  go_ret
  exact ⟨rfl, rfl⟩
theorem tick24_nil (W : World) : Calls Try.prog 11 #[.pointer none] W fun e w' => e = .returned (.bool false) ∧ w' = W := by
  go_enter Try.func11, Try.ntmps11
  go_wp2
  go_ret
  exact ⟨rfl, rfl⟩
theorem round26_nil (W : World) : Calls Try.prog 13 #[.pointer none] W fun e w' => e = .returned (.int .i64 0) ∧ w' = W := by
  go_enter Try.func13, Try.ntmps13
  go_wp2
  go_ret
  exact ⟨rfl, rfl⟩
/-- A bell of three behind k calls: its round, what is left, how often it rang. -/
def bst : Nat → Nat × Nat × Nat
  | 0 => (1, 3, 0)
  | k + 1 => if (bst k).2.1 = 1 then ((bst k).1 + 1, 3 * lby ((bst k).1 + 1), (bst k).2.2 + 1) else ((bst k).1, (bst k).2.1 - 1, (bst k).2.2)
def rings : List Int := [3, 6, 12, 15, 18, 24, 36]
theorem bst_facts : ∀ k : Fin 36, (bst k.1).1 ≤ 8 ∧ 1 ≤ (bst k.1).2.1 ∧ (bst k.1).2.1 ≤ 12 ∧ (bst k.1).2.2 ≤ 7 ∧ ((bst k.1).2.1 = 1 → (bst k.1).2.2 < 7 ∧ rings.getD (bst k.1).2.2 0 = (k.1 : Int) + 1) := by decide +kernel
theorem bst_end : bst 36 = (8, 3, 7) := by decide +kernel
def want : List Int := [1, 1, 2, 1, 1, 2, 4, 1, 1, 2, 1, 1, 2, 4, 8]
theorem want_facts : ∀ i : Fin 15, lubyV ((i.1 : Int) + 1) = want.getD i.1 0 ∧ lubyE ((i.1 : Int) + 1) = 0 := by decide +kernel
theorem great1 : lubyV 4611686018427387903 = 2305843009213693952 ∧ lubyE 4611686018427387903 = 0 := by decide +kernel
theorem great2 : lubyV 9223372036854775807 = 4611686018427387904 ∧ lubyE 9223372036854775807 = 0 := by decide +kernel
theorem great3 : lubyV 4611686018427387904 = 1 ∧ lubyE 4611686018427387904 = 0 := by decide +kernel
theorem great4 : lubyV 0 = 0 ∧ lubyE 0 = 2 := by decide +kernel
theorem fil1 : fil 2 [8, 0, 0] = (8589934592, 3) := by decide +kernel
theorem fil2 : fil 0 [11] = (47244640256, 1) := by decide +kernel
theorem fil3 : fil 0 [10] = (42949672960, 1) := by decide +kernel
theorem fil4 : fil 30 [1073741824] = (4611686018427387904, 1) := by decide +kernel
theorem fil5 : fil 0 [] = (0, 0) := by decide +kernel
theorem av4 : avV 2 4 8589934592 4 = 10737418240 := by decide +kernel
theorem iw_lit {W : World} {b : Nat} {cs : Array Value} {t : Nat} {fr : Nat × Nat} {l : List Int} (h : W.heap[b]? = some (.cells cs t fr)) (hc : ∀ j, j < l.length → cs[j]? = some (.int .i64 (l.getD j 0))) : Iw W (some ⟨b, 0, none⟩) l :=
  .inr ⟨b, 0, rfl, fun j hj => by rw [Nat.zero_add, row_cell h]; exact hc j hj⟩
end Go.Proofs.Ytcoajalgodlphab
