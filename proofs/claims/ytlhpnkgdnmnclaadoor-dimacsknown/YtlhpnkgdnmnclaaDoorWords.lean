/- The function that tells the words of a line one by one. -/
import Derived.Test.YtlhpnkgdnmnclaaDoorLeaf
import Derived.Shelf.Abstract
import Derived.Shelf.RegionOpen
import Derived.OwnWalkIn
import Derived.TacticsInMore
import Derived.LoopNIn
import Derived.LoopIn
namespace Go.Proofs.YtlhpnkgdnmnclaaDoor
open Go.RowKit
set_option linter.unusedVariables false
attribute [local go_sem] Oper.semAt_some

theorem Txt.book {tb : Nat} {w w' : World} {p : Option Addr} {c B : Nat} {cc : Option Nat} {xs : List Int} (h : Txt tb w p c xs) (hb : Book cc B w w') (hc : cc ≠ some tb) : Txt tb w' p c xs := by
  obtain ⟨h1, h2, h3, h4⟩ := h
  refine ⟨h1, h2, h3, ?_⟩
  rcases h4 with h | ⟨o, e, hcc⟩
  · exact .inl h
  · exact .inr ⟨o, e, fun i hi => hb.cell (hcc i hi) hc⟩

/-- The word from b up to i of a text. -/
theorem Txt.word {tb : Nat} {w : World} {p : Option Addr} {c : Nat} {xs : List Int} (h : Txt tb w p c xs) {b i : Nat} (hb : b < i) (hi : i ≤ xs.length) :
    ∃ o, p = some ⟨tb, o, none⟩ ∧ Txt tb w (some ⟨tb, o + b, none⟩) (c - b) (Dim.cur xs b i) := by
  have hl := Dim.cur_len xs b i hi (by omega)
  obtain ⟨h1, h2, h3, h4⟩ := h
  rcases h4 with ⟨_, rfl, _⟩ | ⟨o, e, hc⟩
  · simp at hi; omega
  · refine ⟨o, e, fun x hx => h1 x (List.mem_of_mem_drop (List.mem_of_mem_take hx)), by omega, by omega, .inr ⟨o + b, rfl, fun j hj => ?_⟩⟩
    rw [Dim.cur_get xs b i j hi (by omega), Nat.add_assoc]
    exact hc _ (by omega)

def Keep2 (bx tb : Nat) (W W' : World) : Prop := W'.heap[bx]? = W.heap[bx]? ∧ W'.heap[tb]? = W.heap[tb]?
theorem Keep2.trans {bx tb : Nat} {A B C : World} (h : Keep2 bx tb A B) (k : Keep2 bx tb B C) : Keep2 bx tb A C := ⟨k.1.trans h.1, k.2.trans h.2⟩

/-- A slice value that holds the word k. -/
def WordV (tb : Nat) (ws : List (List Int)) (k : Nat) (v : Value) (W : World) : Prop := ∃ p c, v = .slice p (ws.getD k []).length c ∧ Txt tb W p c (ws.getD k [])

theorem getD_of {α : Type} {L : List α} {k : Nat} {x d : α} (h : L[k]? = some x) : L.getD k d = x := by simp [List.getD, h]

set_option maxRecDepth 100000 in
set_option maxHeartbeats 4000000 in
theorem words47 (tb bx l : Nat) (p : Option Addr) (n c : Nat) (xs : List Int) (J Jx : Nat → World → Prop) (W1 : World) (hn : xs.length = n)
    (hY : ∀ k x W, k < (Dim.words xs).length → J k W → WordV tb (Dim.words xs) k x W → ∀ m, YieldAt Fence.wide m Tryd.prog l #[x] W fun e W' => (e = .returned (.bool true) ∧ J (k + 1) W' ∧ Keep2 bx tb W W') ∨ (e = .returned (.bool false) ∧ Jx (k + 1) W' ∧ KeepN l W W'))
    (hbx : W1.cell? ⟨bx, 0, none⟩ = some (.slice p n c)) (hx : Txt tb W1 p c xs) (h0 : J 0 W1) :
    CallsIn Fence.wide 9 Tryd.prog 47 #[.func (.yield l) #[] #[], .pointer (some ⟨bx, 0, none⟩)] W1 fun e W' => (∃ v, e = .returned v) ∧ (J (Dim.words xs).length W' ∨ ∃ k, k ≤ (Dim.words xs).length ∧ Jx k W') := by
  have HX := hid hx
  have HN := hid hn
  have hnb : n ≤ 1099511627776 := by have := hx.2.1; have := hx.2.2.1; omega
  have hcb : n ≤ c := by have := hx.2.1; omega
  have HY := hid hY
  clear hY hx hn
  obtain ⟨ws, hws⟩ : ∃ ws, Dim.words xs = ws := ⟨_, rfl⟩
  have HWS := hid hws
  rw [hws] at HY ⊢
  clear hws
  by_cases hrem : Dim.remark xs = true
  · obtain ⟨z, zs, rfl, rfl⟩ : ∃ z zs, xs = z :: zs ∧ z = 99 := by
      cases xs with
      | nil => simp [Dim.remark] at hrem
      | cons y ys => exact ⟨y, ys, rfl, by simpa [Dim.remark] using hrem⟩
    have hw0 : ws = [] := by rw [← HWS.out]; simp [Dim.words, hrem]
    subst hw0
    obtain ⟨o, rfl, hc0, _, _⟩ := HX.out.at (i := 0) (by simp)
    rw [Nat.add_zero] at hc0
    have hpos : (0 : Int) < n := by have := HN.out; simp at this; omega
    refine callsIn_of_wp Tryd.func47 rfl trivial ?_ rfl
    simp only [Tryd.ntmps47, List.size_toArray, List.length_cons, List.length_nil, Nat.reduceAdd, Nat.reduceSub, Array.replicate_succ, Array.replicate_zero, List.push_toArray, List.append_toArray, List.nil_append, List.cons_append]
    gi_wp2
    refine bodyPost_ret (results_none rfl _ _ _) rfl ?_
    exact ⟨⟨_, rfl⟩, .inl h0⟩
  · have hw0 : ws = Dim.wordsGo [] xs := by rw [← HWS.out]; simp [Dim.words, hrem]
    have HW0 := hid hw0
    clear hw0
    have hrem' : n = 0 ∨ ∃ o z, p = some ⟨tb, o, none⟩ ∧ 0 < n ∧ W1.cell? ⟨tb, o, none⟩ = some (.int .u8 z) ∧ (z == 99) = false := by
      rcases Nat.eq_zero_or_pos n with h | h
      · exact .inl h
      · obtain ⟨o, e, hc0, _, _⟩ := HX.out.at (i := 0) (by rw [HN.out]; exact h)
        refine .inr ⟨o, xs.getD 0 0, e, h, by simpa using hc0, ?_⟩
        cases xs with
        | nil => have := HN.out; simp at this; omega
        | cons y ys => simpa [Dim.remark] using hrem
    have HR := hid hrem'
    clear hrem hrem'
    refine callsIn_of_wp Tryd.func47 rfl trivial ?_ rfl
    simp only [Tryd.ntmps47, List.size_toArray, List.length_cons, List.length_nil, Nat.reduceAdd, Nat.reduceSub, Array.replicate_succ, Array.replicate_zero, List.push_toArray, List.append_toArray, List.nil_append, List.cons_append]
    rcases HR.out with h | ⟨o, z, hp, hpos, hcz, hz⟩
    · subst h
      obtain rfl : xs = [] := List.eq_nil_of_length_eq_zero HN.out
      obtain rfl : ws = [] := by rw [HW0.out, Dim.wordsGo_end0]
      clear HR HY HX HWS HW0
      gi_wp2
      gi_loopw [3, 4] (fun b i wr => ∃ i' : Nat, b = .int .i64 i' ∧ i = .int .i64 i' ∧ i' ≤ 1 ∧ wr.cell? ⟨bx, 0, none⟩ = some (.slice p 0 c) ∧ Hid (J 0 wr)) (fun _ i _ => 1 - (intOf i).toNat)
      case atStart => exact ⟨0, rfl, rfl, by omega, hbx, hid h0⟩
      case round =>
        obtain ⟨i, rfl, rfl, hi, hcell, hj⟩ := hrel
        by_cases hz : i = 0
        · subst hz
          gi_wp2
          refine ⟨trivial, ?_⟩
          gi_wp2
          refine ⟨fun _ h => (by cases h), ?_⟩
          gi_wp2
          go_roundw
          case rel => exact ⟨1, by go_num, by go_num, by omega, hcell, hj⟩
          case measure => simp [intOf]
        · obtain rfl : i = 1 := by omega
          gi_wp2
          go_end0
          exact ⟨⟨_, rfl⟩, .inl hj.out⟩
    · subst hp
      have hpos' : (0 : Int) < n := by omega
      clear HR
      gi_wp2
      gi_loopw [3, 4] (fun b i wr => ∃ (b' i' k : Nat), b = .int .i64 b' ∧ i = .int .i64 i' ∧ b' ≤ i' ∧ i' ≤ n + 1 ∧ k ≤ ws.length ∧ Hid ((i' ≤ n → ws.drop k = Dim.wordsGo (Dim.cur xs b' i') (xs.drop i')) ∧ (i' = n + 1 → k = ws.length)) ∧ wr.cell? ⟨bx, 0, none⟩ = some (.slice (some ⟨tb, o, none⟩) n c) ∧ Hid (Txt tb wr (some ⟨tb, o, none⟩) c xs) ∧ Hid (J k wr)) (fun _ i _ => n + 1 - (intOf i).toNat)
      case atStart => exact ⟨0, 0, 0, rfl, rfl, Nat.le_refl _, Nat.zero_le _, Nat.zero_le _, hid ⟨fun _ => by simp [Dim.cur_self, HW0.out], fun h => by omega⟩, hbx, HX, hid h0⟩
      case round =>
        obtain ⟨b, i, k, rfl, rfl, hbi, hin, hkl, hw, hcell, hx, hj⟩ := hrel
        by_cases hlt : i < n
        · obtain ⟨o', e, hcy, hly, huy⟩ := hx.out.at (i := i) (by rw [HN.out]; exact hlt)
          have HD := hid (Dim.drop_at xs i (by rw [HN.out]; exact hlt))
          have HS := hid (Dim.cur_snoc xs b i (by rw [HN.out]; exact hlt) hbi)
          generalize hgy : xs.getD i 0 = y at hcy hly huy HD HS
          clear hgy
          have hi1 : (i : Int) ≤ n := by omega
          have hi2 : (i : Int) < n := by omega
          cases e
          cases hy : Dim.blank y
          · gi_wp2_with (refine ⟨trivial, ?_⟩; gi_at_call 48; refine (callsIn_wide.2 (blank48 y _)).mono ?_; rintro e' w' ⟨rfl, hw'⟩; obtain rfl := hw'.symm)
            go_roundw
            case rel =>
              exact ⟨b, i + 1, k, rfl, by go_num, by omega, by omega, hkl, hid ⟨fun _ => by rw [HS.out, ← Dim.wordsGo_on _ _ _ hy, ← HD.out]; exact hw.out.1 (by omega), fun h => by omega⟩, hcell, hx, hj⟩
            case measure => simp [intOf]; omega
          · have hw1 := hw.out.1 (by omega)
            rw [HD.out] at hw1
            by_cases hbe : b = i
            · subst hbe
              have hb0 : ¬ (b : Int) < b := by omega
              rw [Dim.cur_self, Dim.wordsGo_blank0 _ _ hy] at hw1
              have HW1 := hid hw1
              clear hw1 hw
              gi_wp2_with (refine ⟨trivial, ?_⟩; gi_at_call 48; refine (callsIn_wide.2 (blank48 y _)).mono ?_; rintro e' w' ⟨rfl, hw'⟩; obtain rfl := hw'.symm)
              refine ⟨fun _ h => (by cases h), ?_⟩
              gi_wp2
              go_roundw
              case rel => exact ⟨b + 1, b + 1, k, by go_num, by go_num, Nat.le_refl _, by omega, hkl, hid ⟨fun _ => by rw [Dim.cur_self]; exact HW1.out, fun h => by omega⟩, hcell, hx, hj⟩
              case measure => simp [intOf]; omega
            · have hblt : b < i := by omega
              have hb1 : (b : Int) < i := by omega
              have hil : i ≤ xs.length := by rw [HN.out]; omega
              rw [Dim.wordsGo_blank _ _ _ hy (fun h => hbe ((Dim.cur_nil xs b i hil hbi).1 h))] at hw1
              obtain ⟨hk1, hk2, hk3⟩ := Dim.drop_eq_cons hw1
              obtain ⟨o2, e2, hword⟩ := hx.out.word hblt hil
              cases e2
              have hcl := Dim.cur_len xs b i hil hbi
              obtain ⟨fn, tmps, assign, body, hy2, hR⟩ := HY.out k (.slice (some _) (i - b) (c - b)) wr hk1 hj.out ⟨_, _, by rw [getD_of hk2, hcl], by rw [getD_of hk2]; exact hword⟩ 8
              have HK3 := hid hk3
              have hcne : ¬ c = b := by omega
              clear hw1 hw hk2 hk3 hword hcl hbe
              gi_wp2_with (refine ⟨trivial, ?_⟩; gi_at_call 48; refine (callsIn_wide.2 (blank48 y _)).mono ?_; rintro e' w' ⟨rfl, hw'⟩; obtain rfl := hw'.symm)
              refine hR.mono ?_
              rintro e3 W3 (⟨rfl, hJ3, hk3⟩ | ⟨rfl, hJx3, _⟩)
              · have hcell3 : W3.cell? ⟨bx, 0, none⟩ = some (.slice (some ⟨tb, o, none⟩) n c) := (World.cell?_of_block (w := wr) (a := ⟨bx, 0, none⟩) hk3.1).trans hcell
                have hx3 := hid (hx.out.kept hk3.2)
                clear hcell hx
                gi_wp2
                go_roundw
                case rel => exact ⟨i + 1, i + 1, k + 1, by go_num, by go_num, Nat.le_refl _, by omega, by omega, hid ⟨fun _ => by rw [Dim.cur_self]; exact HK3.out, fun h => by omega⟩, hcell3, hx3, hid hJ3⟩
                case measure => simp [intOf]; omega
              · gi_wp2
                refine bodyPost_ret (results_none rfl _ _ _) rfl ?_
                exact ⟨⟨_, rfl⟩, .inr ⟨k + 1, by omega, hJx3⟩⟩
        · by_cases hle : i = n
          · subst hle
            have hi1 : ¬ (i : Int) < i := by omega
            have hw1 := hw.out.1 (by omega)
            have hdn : xs.drop i = [] := List.drop_eq_nil_of_le (by rw [HN.out]; exact Nat.le_refl _)
            rw [hdn] at hw1
            by_cases hbe : b = i
            · subst hbe
              rw [Dim.cur_self, Dim.wordsGo_end0] at hw1
              have HW1 := hid (List.drop_eq_nil_iff.1 hw1)
              clear hw1 hw
              gi_wp2
              refine ⟨trivial, ?_⟩
              gi_wp2
              refine ⟨fun _ h => (by cases h), ?_⟩
              gi_wp2
              go_roundw
              case rel => exact ⟨b + 1, b + 1, k, by go_num, by go_num, Nat.le_refl _, by omega, hkl, hid ⟨fun h => by omega, fun _ => by have := HW1.out; omega⟩, hcell, hx, hj⟩
              case measure => simp [intOf]
            · have hblt : b < i := by omega
              have hb1 : (b : Int) < i := by omega
              have hil : i ≤ xs.length := by rw [HN.out]; omega
              rw [Dim.wordsGo_end _ (fun h => hbe ((Dim.cur_nil xs b i hil hbi).1 h))] at hw1
              obtain ⟨hk1, hk2, hk3⟩ := Dim.drop_eq_cons hw1
              obtain ⟨o2, e2, hword⟩ := hx.out.word hblt hil
              cases e2
              have hcl := Dim.cur_len xs b i hil hbi
              obtain ⟨fn, tmps, assign, body, hy2, hR⟩ := HY.out k (.slice (some _) (i - b) (c - b)) wr hk1 hj.out ⟨_, _, by rw [getD_of hk2, hcl], by rw [getD_of hk2]; exact hword⟩ 8
              have HK3 := hid (List.drop_eq_nil_iff.1 hk3)
              have hcne : ¬ c = b := by omega
              clear hw1 hw hk2 hk3 hword hcl hbe
              gi_wp2
              refine ⟨trivial, ?_⟩
              gi_wp2
              refine hR.mono ?_
              rintro e3 W3 (⟨rfl, hJ3, hk3⟩ | ⟨rfl, hJx3, _⟩)
              · have hcell3 : W3.cell? ⟨bx, 0, none⟩ = some (.slice (some ⟨tb, o, none⟩) i c) := (World.cell?_of_block (w := wr) (a := ⟨bx, 0, none⟩) hk3.1).trans hcell
                have hx3 := hid (hx.out.kept hk3.2)
                clear hcell hx
                gi_wp2
                go_roundw
                case rel => exact ⟨i + 1, i + 1, k + 1, by go_num, by go_num, Nat.le_refl _, by omega, by omega, hid ⟨fun h => by omega, fun _ => by have := HK3.out; omega⟩, hcell3, hx3, hid hJ3⟩
                case measure => simp [intOf]
              · gi_wp2
                refine bodyPost_ret (results_none rfl _ _ _) rfl ?_
                exact ⟨⟨_, rfl⟩, .inr ⟨k + 1, by omega, hJx3⟩⟩
          · have hi : ¬ (i : Int) ≤ n := by omega
            obtain rfl : k = ws.length := hw.out.2 (by omega)
            gi_wp2
            go_end0
            exact ⟨⟨_, rfl⟩, .inl hj.out⟩
end Go.Proofs.YtlhpnkgdnmnclaaDoor
