/- How a text lies in memory, and the calls that only read it. -/
import Derived.Test.YtlhpnkgdnmnclaaDoorProg
import Derived.Test.YtlhpnkgdnmnclaaDoorPlain
import Derived.Test.YtlhpnkgdnmnclaaDoorRange
import Derived.WalkKit
import Derived.Deep.QuietTactic
import Derived.BigQuiet
namespace Go.Proofs.YtlhpnkgdnmnclaaDoor
open Go.RowKit
set_option linter.unusedVariables false

/-- Every number is a byte's. -/
def Byt (xs : List Int) : Prop := ∀ x ∈ xs, 0 ≤ x ∧ x < 256

/-- The slice at p with room c holds the bytes xs, in block tb. -/
def Txt (tb : Nat) (w : World) (p : Option Addr) (c : Nat) (xs : List Int) : Prop :=
  Byt xs ∧ xs.length ≤ c ∧ (xs.length ≤ 1099511627776 ∧ c ≤ 9223372036854775807) ∧ ((p = none ∧ xs = [] ∧ c = 0) ∨ ∃ o, p = some ⟨tb, o, none⟩ ∧ ∀ i, i < xs.length → w.cell? ⟨tb, o + i, none⟩ = some (.int .u8 (xs.getD i 0)))

theorem Txt.kept {tb : Nat} {w w' : World} {p : Option Addr} {c : Nat} {xs : List Int} (h : Txt tb w p c xs) (hb : w'.heap[tb]? = w.heap[tb]?) : Txt tb w' p c xs := by
  obtain ⟨h1, h2, h3, h4⟩ := h
  refine ⟨h1, h2, h3, ?_⟩
  rcases h4 with h | ⟨o, e, hc⟩
  · exact .inl h
  · exact .inr ⟨o, e, fun i hi => (World.cell?_of_block (w := w) (a := ⟨tb, o + i, none⟩) hb).trans (hc i hi)⟩

theorem Txt.at {tb : Nat} {w : World} {p : Option Addr} {c : Nat} {xs : List Int} (h : Txt tb w p c xs) {i : Nat} (hi : i < xs.length) :
    ∃ o, p = some ⟨tb, o, none⟩ ∧ w.cell? ⟨tb, o + i, none⟩ = some (.int .u8 (xs.getD i 0)) ∧ 0 ≤ xs.getD i 0 ∧ xs.getD i 0 < 256 := by
  obtain ⟨h1, h2, h3, h4⟩ := h
  rcases h4 with ⟨_, rfl, _⟩ | ⟨o, e, hc⟩
  · simp at hi
  · exact ⟨o, e, hc i hi, (h1 _ (Dim.getD_mem xs i hi)).1, (h1 _ (Dim.getD_mem xs i hi)).2⟩

set_option maxHeartbeats 1000000 in
theorem blank48 (c : Int) (w : World) : Calls Tryd.prog 48 #[.int .u8 c] w fun e w' => e = .returned (.bool (Dim.blank c)) ∧ w' = w := by
  go_enter Tryd.func48, Tryd.ntmps48
  go_wp2
  all_goals go_ret
  all_goals exact ⟨by simp_all [Dim.blank], rfl⟩

set_option maxHeartbeats 1000000 in
theorem counter22 (w : World) : Calls Tryd.prog 22 #[] w fun e w' => e = .returned (.func (.func 36) #[] #[.pointer (some ⟨w.heap.size, 0, none⟩)]) ∧ w' = w.alloc (.cells #[.int .i64 0] 3) := by
  go_enter Tryd.func22, Tryd.ntmps22
  go_wp2
  go_ret
  exact ⟨rfl, rfl⟩

set_option maxHeartbeats 1000000 in
theorem count36 (c n : Nat) (w : World) (hn : n < 1099511627776) (hc : w.cell? ⟨c, 0, none⟩ = some (.int .i64 n)) (hf : w.frozen? ⟨c, 0, none⟩ = false) :
    Calls Tryd.prog 36 #[.pointer (some ⟨c, 0, none⟩)] w fun e w' => e = .returned (.int .i64 (n + 1 : Nat)) ∧ w' = w.setCell ⟨c, 0, none⟩ (.int .i64 (n + 1 : Nat)) := by
  go_enter Tryd.func36, Tryd.ntmps36
  go_wp2
  go_ret
  exact ⟨by simp, by simp⟩

set_option maxHeartbeats 1000000 in
theorem words38 (p : Option Addr) (n c : Nat) (w : World) : Calls Tryd.prog 38 #[.slice p n c] w fun e w' => e = .returned (.func (.func 47) #[] #[.pointer (some ⟨w.heap.size, 0, none⟩)]) ∧ w' = w.alloc (.cells #[.slice p n c] 22) := by
  go_enter Tryd.func38, Tryd.ntmps38
  go_wp2
  go_ret
  exact ⟨rfl, rfl⟩

set_option maxHeartbeats 2000000 in
theorem number39 (tb : Nat) (p : Option Addr) (n c : Nat) (xs : List Int) (w : World) (hn : xs.length = n) (hx : Txt tb w p c xs) :
    Calls Tryd.prog 39 #[.slice p n c] w fun e w' => e = .returned (.tuple #[.int .i64 (Dim.numV xs), .bool (Dim.isNum xs)]) ∧ w' = w := by
  have HX := hid hx
  have HN := hid hn
  have hnb : n ≤ 1099511627776 := by have := hx.2.1; have := hx.2.2.1; omega
  clear hx hn
  by_cases h0 : n = 0
  · subst h0
    have hf : Dim.isNum xs = false := by simp [Dim.isNum, HN.out]
    rw [Dim.numV_no hf, hf]
    go_enter Tryd.func39, Tryd.ntmps39
    go_wp2
    go_ret2
    exact ⟨rfl, rfl⟩
  have h0' : ¬ (n : Int) = 0 := by omega
  obtain ⟨o, rfl, hc0, hl0, hu0⟩ := HX.out.at (i := 0) (by rw [HN.out]; omega)
  rw [Nat.add_zero] at hc0
  by_cases h1 : 1 < n ∧ xs.getD 0 0 = 48
  · have hf : Dim.isNum xs = false := Dim.isNum_lead (by rw [HN.out]; exact h1.1) h1.2
    rw [Dim.numV_no hf, hf]
    obtain ⟨h1a, h1b⟩ := h1
    rw [h1b] at hc0
    clear hl0 hu0
    have h1c : (1 : Int) < n := by omega
    go_enter Tryd.func39, Tryd.ntmps39
    go_wp2
    go_ret2
    exact ⟨rfl, rfl⟩
  have HZ := hid h1
  have hz : ∃ z, xs.getD 0 0 = z := ⟨_, rfl⟩
  obtain ⟨z, hz⟩ := hz
  rw [hz] at hc0 hl0 hu0
  have h1' : ((1 : Int) < n → ¬ z = 48) := fun hh e => h1 ⟨by omega, by rw [hz]; exact e⟩
  clear h1 hz
  obtain ⟨q, hq⟩ : ∃ q, Dim.numV xs = q := ⟨_, rfl⟩
  obtain ⟨ok, hok⟩ : ∃ ok, Dim.isNum xs = ok := ⟨_, rfl⟩
  have HQ := hid hq
  have HO := hid hok
  rw [hq, hok]
  clear hq hok
  have h2 : (¬ (1 : Int) < n) ∨ ((1 : Int) < n ∧ (z == 48) = false) := by
    by_cases hh : (1 : Int) < n
    · exact .inr ⟨hh, by rw [beq_eq_false_iff_ne]; exact h1' hh⟩
    · exact .inl hh
  clear h1'
  have hn1 : (1 : Int) ≤ n := by omega
  rcases h2 with h2 | ⟨h2, h3⟩ <;>
  · go_enter Tryd.func39, Tryd.ntmps39
    go_wp2
    go_loop [4, 23] (fun m i => ∃ (k v : Nat), k ≤ n ∧ i = .int .i64 k ∧ m = .int .i64 (Dim.sat v) ∧ Hid (v = Dim.valGo 0 (xs.take k)) ∧ Hid (∀ x ∈ xs.take k, Dim.digit x = true)) (fun _ i => n - (intOf i).toNat)
    case atStart => exact ⟨0, 0, Nat.zero_le _, rfl, rfl, by simp [Dim.valGo, Hid], by simp [Hid]⟩
    case round =>
      obtain ⟨k, v, hk, rfl, rfl, hv, hd⟩ := hrel
      by_cases hlt : k < n
      · obtain ⟨o', e, hc, hl, hu⟩ := HX.out.at (i := k) (by rw [HN.out]; exact hlt)
        cases e
        have HT := hid (Dim.take_snoc xs k (by rw [HN.out]; exact hlt))
        have HD := hid (fun h => Dim.isNum_digit (w := xs) (k := k) (by rw [HN.out]; exact hlt) h)
        generalize xs.getD k 0 = y at hc hl hu HT HD
        by_cases hy : y < 48 ∨ 57 < y
        · have hf : ok = false := by rw [← HO.out]; exact HD.out (by simp [Dim.digit]; omega)
          have hq0 : q = 0 := by rw [← HQ.out]; exact Dim.numV_no (by rw [HO.out]; exact hf)
          subst hf hq0
          rcases hy with hy | hy
          · go_wp2
            go_ret2
            exact ⟨rfl, rfl⟩
          · have hy2 : ¬ y < 48 := by omega
            go_wp2
            go_ret2
            exact ⟨rfl, rfl⟩
        · have hy1 : ¬ y < 48 := by omega
          have hy2 : ¬ 57 < y := by omega
          have hs := Dim.sat_step v y (by omega) (by omega)
          have hsb : Dim.sat v ≤ 1048577 := by unfold Dim.sat; omega
          clear hy
          generalize hS : Dim.sat v = sv at hs hsb
          have HS := hid hS
          have HS2 := hid hs
          clear hs hS
          go_wp2
          go_round
          case rel =>
            refine ⟨k + 1, 10 * v + (y - 48).toNat, by omega, by go_num, ?_, hid ?_, hid ?_⟩
            · rw [HS2.out]
              congr 1
              try simp
              try omega
            · rw [HT.out, Dim.valGo_snoc, ← hv.out]
            · intro x hx
              rw [HT.out, List.mem_append] at hx
              rcases hx with hx | hx
              · exact hd.out x hx
              · rw [List.mem_singleton.1 hx]; simp [Dim.digit]; omega
          case measure => simp [intOf]; omega
      · have hke : k = n := by omega
        have hall : xs.take k = xs := List.take_of_length_le (by rw [HN.out]; omega)
        have hd' := hd.out
        have hv' := hv.out
        rw [hall] at hd' hv'
        have hnum : Dim.isNum xs = true := Dim.isNum_of (by rw [HN.out]; omega) (by rw [HN.out]; exact HZ.out) hd'
        have hok : ok = true := by rw [← HO.out, hnum]
        have hq : q = Dim.sat v := by rw [← HQ.out, Dim.numV_yes hnum, hv']
        subst hok hq
        clear hd' hv' hnum hall
        go_wp2
        go_ret2
        exact ⟨rfl, rfl⟩

end Go.Proofs.YtlhpnkgdnmnclaaDoor
