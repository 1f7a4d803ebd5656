/- The words of a line, by the document. -/
import Derived.Test.YtdodfmgbjfhnpaaDoorLinks
import Derived.Test.YtdodfmgbjfhnpaaDoorCopy
namespace Lra
set_option linter.unusedVariables false
/-- Where one stands in a line: the words behind, and the next one begun. -/
structure Wd (l : List Int) (done : List (List Int)) (f i : Nat) : Prop where
  fi : f ≤ i
  il : i ≤ l.length
  cut : cutAll 32 l = done ++ cutAll 32 (l.drop f)
  no : (32 : Int) ∉ (l.drop f).take (i - f)
theorem Wd.start (l : List Int) : Wd l [] 0 0 := ⟨Nat.le_refl _, Nat.zero_le _, by simp, by simp⟩
theorem drop_take (l : List Int) (f i : Nat) (h : f ≤ i) (hi : i < l.length) : l.drop f = (l.drop f).take (i - f) ++ l[i] :: l.drop (i + 1) := by
  conv => lhs; rw [← List.take_append_drop (i - f) (l.drop f)]
  congr 1
  rw [List.drop_drop, show f + (i - f) = i by omega, List.drop_eq_getElem_cons hi]
theorem Wd.next {l : List Int} {done : List (List Int)} {f i : Nat} (h : Wd l done f i) (hi : i < l.length) :
    (l.getD i 0 = 32 → Wd l (done ++ [(l.drop f).take (i - f)]) (i + 1) (i + 1)) ∧ (l.getD i 0 ≠ 32 → Wd l done f (i + 1)) := by
  have hg : l.getD i 0 = l[i] := by simp [List.getD, List.getElem?_eq_getElem hi]
  have hs := drop_take l f i h.fi hi
  rw [hg]
  constructor
  · intro he
    refine ⟨Nat.le_refl _, by omega, ?_, by simp⟩
    rw [h.cut]
    rw [he] at hs
    rw [List.append_assoc]
    congr 1
    conv => lhs; rw [hs]
    exact cutAll_at 32 _ _ h.no
  · intro he
    refine ⟨by have := h.fi; omega, by omega, h.cut, ?_⟩
    have e : (l.drop f).take (i + 1 - f) = (l.drop f).take (i - f) ++ [l[i]] := by
      have hl : i - f < (l.drop f).length := by rw [List.length_drop]; have := h.fi; omega
      rw [show i + 1 - f = i - f + 1 by have := h.fi; omega, List.take_succ_eq_append_getElem hl]
      congr 1
      rw [List.getElem_drop]
      simp only [show f + (i - f) = i by have := h.fi; omega]
    rw [e]
    intro hm
    rcases List.mem_append.1 hm with hm | hm
    · exact h.no hm
    · simp at hm; exact he hm.symm
theorem Wd.end {l : List Int} {done : List (List Int)} {f : Nat} (h : Wd l done f l.length) : cutAll 32 l = done ++ [(l.drop f).take (l.length - f)] := by
  rw [h.cut]
  congr 1
  have e : (l.drop f).take (l.length - f) = l.drop f := List.take_of_length_le (by rw [List.length_drop]; exact Nat.le_refl _)
  have hn := h.no
  rw [e] at hn ⊢
  exact cutAll_none 32 _ hn
end Lra
namespace Go.Proofs.YtdodfmgbjfhnpaaDoor
open Go.RowKit
set_option linter.unusedVariables false
set_option linter.unusedSimpArgs false

theorem info9 : (Tryd.prog.info? 9).map (fun i => (i.zero, i.size, i.bytes)) = some (some (.string ⟨#[]⟩), 1, 16) := by kernel_rfl
/-- A word more. -/
theorem word_push {W : World} {base n : Nat} {v : Value} {xs : List Value} (h : W.ownsRow base 9 1 v n xs) (hb : base ≤ W.heap.size) (hl : n ≤ 16777216) (S : ByteArray) :
    ∃ o c B, (Builtin.append_ #[45, 45] 45 #[v, .slice (some ⟨W.heap.size, 0, none⟩) 1 1]).run Tryd.prog (W.alloc (.cells #[.string S] 9)) = .ok (.slice o (n + 1) c) B ∧ B.ownsRow base 9 1 (.slice o (n + 1) c) (n + 1) (xs ++ [.string S]) ∧ Below base W B := by
  obtain ⟨i0, hi, hz⟩ := Option.map_eq_some_iff.1 info9
  simp only [Prod.mk.injEq] at hz
  obtain ⟨hz0, hz1, hz2⟩ := hz
  obtain ⟨W1, hW1⟩ : ∃ W1, W.alloc (.cells #[.string S] 9) = W1 := ⟨_, rfl⟩
  have hM : W1.heap[W.heap.size]? = some (.cells #[.string S] 9 (0, 0)) := by rw [← hW1]; exact heap_alloc_new _ _
  have h01 : Below W.heap.size W W1 := by rw [← hW1]; exact below_box _ _
  have hs1 : W1.heap.size = W.heap.size + 1 := by rw [← hW1]; simp
  have hop := own_below h h01
  rw [hW1]
  obtain ⟨v2, B, hr, ho2, hg, _, hat⟩ := run_append_own_at (P := Tryd.prog) W1 base 45 45 9 i0 _ 1 16 Tryd.underlying45 hi hz0 hz1 hz2 rfl (by decide) v n _ hop ⟨W.heap.size, 0, none⟩ 1 1 [.string S] rfl (fun j u hu => by
    match j, hu with
    | 0, hu => simp at hu; subst hu; rw [show (⟨W.heap.size, 0, none⟩ : Addr).add 0 = ⟨W.heap.size, 0, none⟩ from rfl, row_cell hM 0]; rfl
    | j + 1, hu => simp at hu) (by simp [Value.oneCell']) (by simp [maxLen]; omega) (by omega) (by omega)
  obtain ⟨o', cp', rfl⟩ := own_slc ho2
  refine ⟨o', cp', B, hr, ho2, ⟨hg.os.trans h01.os, hg.tape.trans h01.tape, hg.output.trans h01.output, by have := hg.size; omega, fun k hk => (hg.block k (by omega) (fun e => ?_)).trans (h01.block k (by omega))⟩⟩
  have := (h.lt k e.symm).1
  omega

/-- Words that are told. -/
def WordsOut (S : ByteArray) (w : World) (e : Ending) (w' : World) : Prop :=
  ∃ (ws : List ByteArray) (v : Value), e = .returned v ∧ ws.map Lra.ints = Lra.cutAll 32 (Lra.ints S) ∧ (∀ x ∈ ws, x.size ≤ S.size) ∧ w'.ownsRow w.heap.size 9 1 v ws.length (ws.map Value.string) ∧ Below w.heap.size w w'

set_option maxRecDepth 100000 in
set_option maxHeartbeats 8000000 in
theorem words54 (S : ByteArray) (w : World) (hS : S.size ≤ 1000000) : Calls Tryd.prog 54 #[.string S] w fun e w' => WordsOut S w e w' := by
  have hSi : (S.size : Int) ≤ 1000000 := by omega
  go_enter Tryd.func54, Tryd.ntmps54
  go_wp2
  go_loopw [3, 4, 5] (fun lv fv iv wr => ∃ (ws : List ByteArray) (o : Option Addr) (n c f i : Nat), lv = .slice o n c ∧ fv = .int .i64 f ∧ iv = .int .i64 i ∧ f ≤ i ∧ i ≤ S.size + 1 ∧ n ≤ i ∧ Hid (ws.length = n ∧ (∀ x ∈ ws, x.size ≤ S.size) ∧ (i ≤ S.size → Lra.Wd (Lra.ints S) (ws.map Lra.ints) f i) ∧ (i = S.size + 1 → ws.map Lra.ints = Lra.cutAll 32 (Lra.ints S))) ∧ Hid (wr.ownsRow w.heap.size 9 1 (.slice o n c) n (ws.map Value.string)) ∧ Hid (Below w.heap.size w wr)) (fun _ _ iv _ => S.size + 1 - (intOf iv).toNat)
  case atStart => exact ⟨[], none, 0, 0, 0, 0, rfl, rfl, rfl, Nat.le_refl _, Nat.zero_le _, Nat.le_refl _, hid ⟨rfl, (fun x hx => by cases hx), fun _ => Lra.Wd.start _, fun h => by omega⟩, hid (World.ownsRow_nil _ _ _ _), hid (Below.refl _ _)⟩
  case round =>
    obtain ⟨ws, o, n, c, f, i, rfl, rfl, rfl, hfi, hi, hni, HI, HO, HB⟩ := hrel
    by_cases hend : i = S.size + 1
    · have hlt' : ¬ (i : Int) ≤ S.size := by omega
      go_wp2
      go_ret
      have hI := HI.out
      exact ⟨ws, _, rfl, hI.2.2.2 hend, hI.2.1, by rw [hI.1]; exact HO.out, HB.out⟩
    · have hle : i ≤ S.size := by omega
      have hle' : (i : Int) ≤ S.size := by omega
      have hwd := HI.out.2.2.1 hle
      obtain ⟨o2, c2, B, hr, ho2, hb2⟩ := word_push HO.out HB.out.size (by omega) (S.extract f i)
      have hwi : Lra.ints (S.extract f i) = ((Lra.ints S).drop f).take (i - f) := Lra.ints_extract S f i
      have hws : (S.extract f i).size ≤ S.size := by rw [ByteArray.size_extract]; omega
      have HR := hid hr
      have HO2 := hid ho2
      have HB2 := hid (HB.out.trans hb2)
      have HWI := hid (And.intro hwi hws)
      have hf1 : (f : Int) ≤ i := by omega
      clear hr ho2 hb2 hwi hws
      by_cases hlt : i < S.size
      · have hlt' : (i : Int) < S.size := by omega
        have hne : ((i : Int) == S.size) = false := by rw [beq_eq_false_iff_ne]; omega
        obtain ⟨hn1, hn2⟩ := hwd.next (by rw [Lra.ints_len]; exact hlt)
        rw [Lra.ints_getD S i hlt] at hn1 hn2
        obtain ⟨x, hx⟩ : ∃ x : Int, (S[i].toNat : Int) = x := ⟨_, rfl⟩
        rw [hx] at hn1 hn2
        by_cases h32 : x = 32
        · have h32' : (x == 32) = true := by rw [h32]; rfl
          have HW := hid (hn1 h32)
          clear hn1 hn2 h32 hwd
          go_wp2_with (at_builtin; refine wpList_append_run rfl (.tmp 22) (.tmp 27) 45 45 rfl rfl rfl HR.out ?_; clear HR)
          go_roundw
          case rel => exact ⟨ws ++ [S.extract f i], o2, n + 1, c2, i + 1, i + 1, by go_num, by go_num, by go_num, Nat.le_refl _, by omega, by omega, hid ⟨by simp [HI.out.1], (fun z hz => by
            rcases List.mem_append.1 hz with hz | hz
            · exact HI.out.2.1 z hz
            · simp at hz; rw [hz]; exact HWI.out.2), (fun _ => by rw [List.map_append]; simp only [List.map_cons, List.map_nil]; rw [HWI.out.1]; exact HW.out), fun h => by omega⟩, hid (by rw [List.map_append]; exact HO2.out), HB2⟩
          case measure => simp [intOf]; omega
        · have h32' : (x == 32) = false := by simpa using h32
          have HW := hid (hn2 h32)
          clear hn1 hn2 h32 hwd HR HO2 HB2 HWI
          go_wp2
          go_roundw
          case rel => exact ⟨ws, o, n, c, f, i + 1, rfl, rfl, by go_num, by omega, by omega, by omega, hid ⟨HI.out.1, HI.out.2.1, (fun _ => HW.out), fun h => by omega⟩, HO, HB⟩
          case measure => simp [intOf]; omega
      · obtain rfl : i = S.size := by omega
        have HE := hid (Lra.Wd.end (by rw [Lra.ints_len]; exact hwd))
        rw [Lra.ints_len] at HE
        clear hwd
        go_wp2_with (at_builtin; refine wpList_append_run rfl (.tmp 22) (.tmp 27) 45 45 rfl rfl rfl HR.out ?_; clear HR)
        go_roundw
        case rel => exact ⟨ws ++ [S.extract f S.size], o2, n + 1, c2, S.size + 1, S.size + 1, by go_num, by go_num, by go_num, Nat.le_refl _, by omega, by omega, hid ⟨by simp [HI.out.1], (fun z hz => by
          rcases List.mem_append.1 hz with hz | hz
          · exact HI.out.2.1 z hz
          · simp at hz; rw [hz]; exact HWI.out.2), (fun h => by omega), (fun _ => by rw [List.map_append]; simp only [List.map_cons, List.map_nil]; rw [HWI.out.1]; exact HE.out.symm)⟩, hid (by rw [List.map_append]; exact HO2.out), HB2⟩
        case measure => simp [intOf]
end Go.Proofs.YtdodfmgbjfhnpaaDoor
