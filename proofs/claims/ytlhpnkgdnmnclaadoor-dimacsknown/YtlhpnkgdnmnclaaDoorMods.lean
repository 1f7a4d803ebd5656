/- Any text is the values of a model, or refused: the walk of the statement's own function. -/
import Derived.Test.YtlhpnkgdnmnclaaDoorRefMod
namespace Go.Proofs.YtlhpnkgdnmnclaaDoor
open Go.RowKit
set_option linter.unusedVariables false
set_option linter.unusedSimpArgs false

theorem agree (S : ByteArray) (vars : Nat) :
    ((Dim.rd vars (Dim.allW (Dim.ints S))).length = vars ∧ bstr (Dim.valuesB (Dim.rd vars (Dim.allW (Dim.ints S)))) = S → Dim.rd vars (Dim.allW (Dim.ints S)) = Dim.refM vars (Dim.allW (Dim.ints S))) ∧
    (bstr (Dim.valuesB (Dim.refM vars (Dim.allW (Dim.ints S)))) = S → Dim.rd vars (Dim.allW (Dim.ints S)) = Dim.refM vars (Dim.allW (Dim.ints S))) := by
  constructor
  · rintro ⟨h1, h2⟩
    have h3 : Dim.ints S = Dim.I (Dim.valuesB (Dim.rd vars (Dim.allW (Dim.ints S)))) := (congrArg Dim.ints h2.symm).trans (ints_bstr _)
    generalize Dim.rd vars (Dim.allW (Dim.ints S)) = r at h1 h2 h3
    rw [h3, ← h1, Dim.refM_values]
  · intro h2
    have h1 := Dim.refM_len vars (Dim.allW (Dim.ints S))
    have h3 : Dim.ints S = Dim.I (Dim.valuesB (Dim.refM vars (Dim.allW (Dim.ints S)))) := (congrArg Dim.ints h2.symm).trans (ints_bstr _)
    generalize Dim.refM vars (Dim.allW (Dim.ints S)) = r at h1 h2 h3
    rw [h3, ← h1, Dim.rd_values]

set_option maxHeartbeats 2000000 in
theorem model19_arg (S : ByteArray) (vars : Int) (w : World) (h : vars < 0 ∨ 1048576 < vars) :
    Calls Tryd.prog 19 #[.string S, .int .i64 vars] w fun e w' => e = .returned (.tuple #[.slice none 0 0, .int .i64 2]) ∧ w' = w := by
  by_cases h0 : vars < 0
  · clear h
    go_enter Tryd.func19, Tryd.ntmps19
    go_wp2
    go_ret2
    exact ⟨rfl, rfl⟩
  · have h1 : 1048576 < vars := by omega
    clear h
    go_enter Tryd.func19, Tryd.ntmps19
    go_wp2
    go_ret2
    exact ⟨rfl, rfl⟩

theorem bools_nil (w : World) (a : Option Addr) : Bools w a [] := .inl rfl

set_option maxRecDepth 100000 in
set_option maxHeartbeats 4000000 in
theorem law5 (S : ByteArray) (vars : Int) (w : World) (htab : Lib.TabBelow Tryd.prog w.heap.size w "internal/strconv.uint64pow10" .u64 Lib.pow10Tab) :
    Calls Tryd.prog 5 #[.string S, .int .i64 vars] w fun e w' => e = .returned (.bool true) ∧ Below w.heap.size w w' := by
  have HT := hid htab
  clear htab
  by_cases h1 : (3000 : Int) < S.size
  · clear HT
    go_enter Tryd.func5, Tryd.ntmps5
    go_wp2
    all_goals
      go_ret
      exact ⟨rfl, Below.refl _ _⟩
  by_cases h2 : 3000 < vars ∧ vars ≤ 1048576
  · obtain ⟨h2a, h2b⟩ := h2
    clear HT
    go_enter Tryd.func5, Tryd.ntmps5
    go_wp2
    all_goals
      go_ret
      exact ⟨rfl, Below.refl _ _⟩
  by_cases h3 : vars < 0 ∨ 1048576 < vars
  · have C18 := hid (model18_arg S vars w h3)
    have C19 := hid (fun W => model19_arg S vars W h3)
    have hv : ¬ 3000 < vars ∨ (3000 < vars ∧ ¬ vars ≤ 1048576) := by omega
    clear h2 h3
    rcases hv with hv | ⟨hv, hv2⟩
    all_goals
      go_enter Tryd.func5, Tryd.ntmps5
      go_wp2_with (first
        | (go_at_call 18; refine C18.out.mono ?_; clear C18; rintro e W2 ⟨rfl, hb2⟩
           have HB2 := hid hb2
           have C20 := hid (sameModel20 none none 0 0 0 [] W2 rfl (by omega) (bools_nil _ _) (bools_nil _ _))
           clear hb2)
        | (go_at_call 19; refine (C19.out _).mono ?_; clear C19; rintro e W3 ⟨rfl, rfl⟩)
        | (go_at_call 20; refine C20.out.mono ?_; clear C20; rintro e W4 ⟨rfl, hb4⟩
           have hB4 := HB2.out.trans (hb4.mono HB2.out.size)
           have C12 := hid (works12 W4 (fun w' hw => HT.out w' (hB4.trans (hw.mono hB4.size))))
           have HB4 := hid hB4
           clear hb4 hB4)
        | (go_at_call 12; refine C12.out.mono ?_; clear C12; rintro e W5 ⟨rfl, hb5⟩
           have HB6 := hid (HB4.out.trans (hb5.mono HB4.out.size))
           clear hb5))
      go_ret
      exact ⟨rfl, HB6.out⟩
  obtain ⟨u, rfl⟩ : ∃ u : Nat, vars = (u : Int) := ⟨vars.toNat, by omega⟩
  have hu : u ≤ 3000 := by omega
  have hu' : ¬ (3000 : Int) < u := by omega
  clear h2 h3
  obtain ⟨g1, g2⟩ := agree S u
  have hlen := Dim.refM_len u (Dim.allW (Dim.ints S))
  have M18 := hid (model18 S u w (by omega) (by omega) HT.out)
  have M19 := hid (fun W => model19 S u W (by omega) (by omega))
  generalize Dim.refM u (Dim.allW (Dim.ints S)) = q at g1 g2 hlen M19
  generalize Dim.rd u (Dim.allW (Dim.ints S)) = r at g1 g2 M18
  by_cases hq : bstr (Dim.valuesB q) = S
  · have hrq := g2 hq
    subst hrq
    have C18 := hid (M18.out.mono (R' := fun e w' => ∃ a cap, e = .returned (.tuple #[.slice a u cap, .int .i64 0]) ∧ Bools w' a r ∧ Below w.heap.size w w') fun e w' h => by
      rcases h.1 with ⟨_, _, a, cap, he, hb⟩ | ⟨hn, _⟩
      · exact ⟨a, cap, he, hb, h.2⟩
      · exact absurd ⟨hlen, hq⟩ hn)
    have C19 := hid (fun W => (M19.out W).mono (R' := fun e w' => ∃ a cap, e = .returned (.tuple #[.slice a u cap, .int .i64 0]) ∧ Bools w' a r ∧ Below W.heap.size W w') fun e w' h => by
      rcases h.1 with ⟨_, a, cap, he, hb⟩ | ⟨hn, _⟩
      · exact ⟨a, cap, he, hb, h.2⟩
      · exact absurd hq hn)
    have HLEN := hid hlen
    clear g1 g2 hq M18 M19 hlen
    go_enter Tryd.func5, Tryd.ntmps5
    go_wp2_with (first
      | (go_at_call 18; refine C18.out.mono ?_; clear C18; rintro e W2 ⟨a2, cap2, rfl, hbo2, hb2⟩
         have HB2 := hid hb2
         have HBO2 := hid hbo2
         clear hb2 hbo2)
      | (go_at_call 19; refine (C19.out _).mono ?_; clear C19; rintro e W3 ⟨a3, cap3, rfl, hbo3, hb3⟩
         have hB3 := HB2.out.trans (hb3.mono HB2.out.size)
         have C20 := hid (sameModel20 a2 a3 u cap2 cap3 r W3 HLEN.out (by omega) (HBO2.out.below hb3) hbo3)
         have HB3 := hid hB3
         clear hb3 hbo3 hB3)
      | (go_at_call 20; refine C20.out.mono ?_; clear C20; rintro e W4 ⟨rfl, hb4⟩
         have hB4 := HB3.out.trans (hb4.mono HB3.out.size)
         have C12 := hid (works12 W4 (fun w' hw => HT.out w' (hB4.trans (hw.mono hB4.size))))
         have HB4 := hid hB4
         clear hb4 hB4)
      | (go_at_call 12; refine C12.out.mono ?_; clear C12; rintro e W5 ⟨rfl, hb5⟩
         have HB6 := hid (HB4.out.trans (hb5.mono HB4.out.size))
         clear hb5))
    go_ret
    exact ⟨rfl, HB6.out⟩
  · have C18 := hid (M18.out.mono (R' := fun e w' => e = .returned (.tuple #[.slice none 0 0, .int .i64 21]) ∧ Below w.heap.size w w') fun e w' h => by
      rcases h.1 with ⟨h1, h2, _⟩ | ⟨_, he⟩
      · have := g1 ⟨h1, h2⟩
        rw [this] at h2
        exact absurd h2 hq
      · exact ⟨he, h.2⟩)
    have C19 := hid (fun W => (M19.out W).mono (R' := fun e w' => e = .returned (.tuple #[.slice none 0 0, .int .i64 21]) ∧ Below W.heap.size W w') fun e w' h => by
      rcases h.1 with ⟨h1, _⟩ | ⟨_, he⟩
      · exact absurd h1 hq
      · exact ⟨he, h.2⟩)
    clear g1 g2 hq M18 M19 hlen
    go_enter Tryd.func5, Tryd.ntmps5
    go_wp2_with (first
      | (go_at_call 18; refine C18.out.mono ?_; clear C18; rintro e W2 ⟨rfl, hb2⟩
         have HB2 := hid hb2
         clear hb2)
      | (go_at_call 19; refine (C19.out _).mono ?_; clear C19; rintro e W3 ⟨rfl, hb3⟩
         have hB3 := HB2.out.trans (hb3.mono HB2.out.size)
         have C20 := hid (sameModel20 none none 0 0 0 [] W3 rfl (by omega) (bools_nil _ _) (bools_nil _ _))
         have HB3 := hid hB3
         clear hb3 hB3)
      | (go_at_call 20; refine C20.out.mono ?_; clear C20; rintro e W4 ⟨rfl, hb4⟩
         have hB4 := HB3.out.trans (hb4.mono HB3.out.size)
         have C12 := hid (works12 W4 (fun w' hw => HT.out w' (hB4.trans (hw.mono hB4.size))))
         have HB4 := hid hB4
         clear hb4 hB4)
      | (go_at_call 12; refine C12.out.mono ?_; clear C12; rintro e W5 ⟨rfl, hb5⟩
         have HB6 := hid (HB4.out.trans (hb5.mono HB4.out.size))
         clear hb5))
    go_ret
    exact ⟨rfl, HB6.out⟩
end Go.Proofs.YtlhpnkgdnmnclaaDoor
