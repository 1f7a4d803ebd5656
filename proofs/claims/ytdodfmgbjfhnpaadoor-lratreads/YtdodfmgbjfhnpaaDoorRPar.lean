/- A text of steps, read by the document. -/
import Derived.Test.YtdodfmgbjfhnpaaDoorRStp
import Derived.Test.YtdodfmgbjfhnpaaDoorParse
namespace Lra
set_option linter.unusedVariables false
/-- Where one stands in a text that is read: the steps of the lines behind, and the next line begun. -/
structure Rd (s : List Int) (ss : List Stp) (f i : Nat) : Prop where
  fi : f ≤ i
  il : i ≤ s.length
  go : parseGo [] (linesL s) = parseGo ss (linesL (s.drop f))
  no : (10 : Int) ∉ (s.drop f).take (i - f)
theorem Rd.start (s : List Int) : Rd s [] 0 0 := ⟨Nat.le_refl _, Nat.zero_le _, by simp, by simp⟩
theorem drop_take' (l : List Int) (f i : Nat) (h : f ≤ i) (hi : i < l.length) : l.drop f = (l.drop f).take (i - f) ++ l[i] :: l.drop (i + 1) := by
  conv => lhs; rw [← List.take_append_drop (i - f) (l.drop f)]
  congr 1
  rw [List.drop_drop, show f + (i - f) = i by omega, List.drop_eq_getElem_cons hi]
theorem Rd.next {s : List Int} {ss : List Stp} {f i : Nat} (h : Rd s ss f i) (hi : i < s.length) :
    (s.getD i 0 ≠ 10 → Rd s ss f (i + 1)) ∧ (s.getD i 0 = 10 → (stepW (cutAll 32 ((s.drop f).take (i - f))) = none → parse s = .error (ss.length + 1)) ∧ ∀ x, stepW (cutAll 32 ((s.drop f).take (i - f))) = some x → Rd s (ss ++ [x]) (i + 1) (i + 1)) := by
  have hg : s.getD i 0 = s[i] := by simp [List.getD, List.getElem?_eq_getElem hi]
  have hs := drop_take' s f i h.fi hi
  rw [hg]
  constructor
  · intro he
    refine ⟨by have := h.fi; omega, by omega, h.go, ?_⟩
    have e : (s.drop f).take (i + 1 - f) = (s.drop f).take (i - f) ++ [s[i]] := by
      have hl : i - f < (s.drop f).length := by rw [List.length_drop]; have := h.fi; omega
      rw [show i + 1 - f = i - f + 1 by have := h.fi; omega, List.take_succ_eq_append_getElem hl]
      congr 1
      rw [List.getElem_drop]
      simp only [show f + (i - f) = i by have := h.fi; omega]
    rw [e]
    intro hm
    rcases List.mem_append.1 hm with hm | hm
    · exact h.no hm
    · simp at hm; exact he hm.symm
  · intro he
    rw [he] at hs
    have hline : linesL (s.drop f) = ((s.drop f).take (i - f) ++ [10]) :: linesL (s.drop (i + 1)) := by
      conv => lhs; rw [hs]
      exact linesL_at _ _ h.no
    have hst : stepLine ((s.drop f).take (i - f) ++ [10]) = stepW (cutAll 32 ((s.drop f).take (i - f))) := by
      unfold stepLine
      rw [if_pos (by simp), List.dropLast_concat]
    constructor
    · intro hn
      unfold parse
      rw [h.go, hline, parseGo, hst, hn]
    · intro x hx
      refine ⟨Nat.le_refl _, by omega, ?_, by simp⟩
      rw [h.go, hline, parseGo, hst, hx]
theorem Rd.end {s : List Int} {ss : List Stp} {f : Nat} (h : Rd s ss f s.length) : (f < s.length → parse s = .error (ss.length + 1)) ∧ (¬ f < s.length → parse s = .ok ss) := by
  have e : (s.drop f).take (s.length - f) = s.drop f := List.take_of_length_le (by rw [List.length_drop]; exact Nat.le_refl _)
  have hn := h.no
  rw [e] at hn
  constructor
  · intro hf
    have hne : s.drop f ≠ [] := by intro e2; have := congrArg List.length e2; rw [List.length_drop] at this; simp at this; omega
    unfold parse
    rw [h.go, linesL_none _ hn hne, parseGo]
    have hs : stepLine (s.drop f) = none := by
      unfold stepLine
      rw [if_neg (fun hl => hn (List.mem_of_getLast? hl))]
    rw [hs]
  · intro hf
    unfold parse
    rw [h.go, List.drop_eq_nil_of_le (by omega)]
    rfl
/-- How many there are. -/
theorem Rd.few {s : List Int} {ss : List Stp} {f i : Nat} (h : Rd s ss f i) (hs : ss.length ≤ f) : ss.length ≤ s.length := by
  have := h.fi; have := h.il; omega
end Lra
namespace Go.Proofs.YtdodfmgbjfhnpaaDoor
open Go.RowKit
set_option linter.unusedVariables false
set_option linter.unusedSimpArgs false

set_option maxRecDepth 100000 in
set_option maxHeartbeats 8000000 in
theorem parse16 (S : ByteArray) (w : World) (hS : S.size ≤ 1000000) : Calls Tryd.prog 16 #[.string S] w fun e w' => POut w (Lra.parse (Lra.ints S)) e w' := by
  have hSi : (S.size : Int) ≤ 1000000 := by omega
  have HSZ := hid hS
  go_enter Tryd.func16, Tryd.ntmps16
  go_wp2
  go_loopw [5, 6, 7, 8, 9, 10] (fun lv fv nv iv _ _ wr => ∃ (qs : List Q) (o : Option Addr) (k d f tot i : Nat), lv = .slice o k d ∧ fv = .int .i64 f ∧ nv = .int .i64 tot ∧ iv = .int .i64 i ∧ k ≤ f ∧ tot ≤ f ∧ f ≤ i ∧ i ≤ S.size ∧ Hid (qs.length = k) ∧ Hid (Lra.Rd (Lra.ints S) (qs.map (·.1)) f i) ∧ Hid (Mem w.heap.size wr (.slice o k d) qs) ∧ Hid (Below w.heap.size w wr)) (fun _ _ _ iv _ _ _ => S.size - (intOf iv).toNat)
  case atStart => exact ⟨[], none, 0, 0, 0, 0, 0, rfl, rfl, rfl, rfl, Nat.le_refl _, Nat.le_refl _, Nat.le_refl _, Nat.zero_le _, hid rfl, hid (Lra.Rd.start _), hid (Mem.nil _ _), hid (Below.refl _ _)⟩
  case round =>
    obtain ⟨qs, o, k, d, f, tot, i, rfl, rfl, rfl, rfl, hkf, htf, hfi, hi, HQL, HR, HM, HB⟩ := hrel
    by_cases hlt : i < S.size
    · have hlt' : (i : Int) < S.size := by omega
      obtain ⟨hn1, hn2⟩ := HR.out.next (by rw [Lra.ints_len]; exact hlt)
      rw [Lra.ints_getD S i hlt] at hn1 hn2
      obtain ⟨x, hx⟩ : ∃ x : Int, (S[i].toNat : Int) = x := ⟨_, rfl⟩
      rw [hx] at hn1 hn2
      by_cases h10 : x = 10
      · have h10' : (x != 10) = false := by rw [h10]; rfl
        obtain ⟨he1, he2⟩ := hn2 h10
        have C30 := step30 (S.extract f i) wr (by rw [ByteArray.size_extract]; omega)
        have hex : Lra.ints (S.extract f i) = ((Lra.ints S).drop f).take (i - f) := Lra.ints_extract S f i
        rw [hex] at C30
        have hfi' : (f : Int) ≤ i := by omega
        cases hst : Lra.stepW (Lra.cutAll 32 (((Lra.ints S).drop f).take (i - f))) with
        | none =>
          have HE := hid (he1 hst)
          rw [List.length_map, HQL.out] at HE
          rw [hst] at C30
          have K30 := hid (C30.mono (R' := fun e w' => ∃ (kk ii : Int) (o1 : Option Addr) (n1 c1 : Nat) (o2 : Option Addr) (n2 c2 : Nat), e = .returned (.tuple #[.agg #[.int .u8 kk, .int .i64 ii, .slice o1 n1 c1, .slice o2 n2 c2], .bool false]) ∧ Below wr.heap.size wr w') (by
            rintro e w' (⟨_, kk, ii, l, h, he, ⟨o1, n1, c1, rfl⟩, ⟨o2, n2, c2, rfl⟩, hb⟩ | ⟨x', l, h, hx', _⟩)
            · exact ⟨kk, ii, o1, n1, c1, o2, n2, c2, he, hb⟩
            · cases hx'))
          clear C30 hst he1 he2 hn1 hn2 h10 hex
          go_wp2_with (go_at_call 30; refine K30.out.mono ?_; clear K30; rintro e W2 ⟨kk, ii, o1, n1, c1, o2, n2, c2, rfl, hb⟩; have HB2 := hid (HB.out.trans (hb.mono HB.out.size)); clear hb)
          go_ret3
          exact .inl ⟨k + 1, HE.out, by push_cast; rfl, HB2.out.alloc HB2.out.size _⟩
        | some y =>
          have HR2 := hid (he2 y hst)
          have hgood := Lra.stepW_good hst
          have hcl := Lra.cutAll_len 32 (((Lra.ints S).drop f).take (i - f))
          rw [List.length_take] at hcl
          have hyl : y.lits.length + y.hints.length ≤ i - f := by omega
          rw [hst] at C30
          have K30 := hid (C30.mono (R' := fun e w' => ∃ (o1 : Option Addr) (c1 : Nat) (o2 : Option Addr) (c2 : Nat), e = .returned (.tuple #[.agg #[.int .u8 y.kind, .int .i64 y.id, .slice o1 y.lits.length c1, .slice o2 y.hints.length c2], .bool true]) ∧ QV wr.heap.size w' (y, .slice o1 y.lits.length c1, .slice o2 y.hints.length c2) ∧ Below wr.heap.size wr w') (by
            rintro e w' (⟨h, _⟩ | ⟨x', l, h, hx', he, hq, hb⟩)
            · cases h
            · cases hx'
              obtain ⟨o1, c1, hl1⟩ := own_slc hq.l
              obtain ⟨o2, c2, hl2⟩ := own_slc hq.h
              simp only at hl1 hl2
              subst hl1 hl2
              exact ⟨o1, c1, o2, c2, he, hq, hb⟩))
          have hk1 : ((4194304 : Int) ≤ (k : Int)) = False := by simp; omega
          have hk2 : ¬ (4194304 : Int) ≤ (k : Int) := by omega
          have hyb : (y.lits.length : Int) + y.hints.length ≤ i - f := by omega
          have HYB := hid hyl
          obtain ⟨n1, hn1'⟩ : ∃ n1, y.lits.length = n1 := ⟨_, rfl⟩
          obtain ⟨n2, hn2'⟩ : ∃ n2, y.hints.length = n2 := ⟨_, rfl⟩
          rw [hn1', hn2'] at K30 hyb HYB
          have hb1 : ((tot : Int) + n1 + n2) ≤ i := by omega
          have hb2 : ¬ (16777216 : Int) < (tot : Int) + n1 + n2 := by omega
          clear C30 hst he1 he2 hn1 hn2 h10 hex hgood hcl hyl hn1' hn2' hk1 hk2 hb2
          go_wp2_with (fail)
          go_at_call 30
          refine K30.out.mono ?_
          clear K30
          rintro e W2 ⟨o1, c1, o2, c2, rfl, hq, hb⟩
          have hB2 := HB.out.trans (hb.mono HB.out.size)
          obtain ⟨V, hV⟩ : ∃ V, W2.alloc (.cells #[.int .u8 y.kind, .int .i64 y.id, .slice o1 n1 c1, .slice o2 n2 c2] 43) = V := ⟨_, rfl⟩
          have hbV : Below W2.heap.size W2 V := by rw [← hV]; exact below_box _ _
          have hVn : V.heap[W2.heap.size]? = some (.cells #[.int .u8 y.kind, .int .i64 y.id, .slice o1 n1 c1, .slice o2 n2 c2] 43 (0, 0)) := by rw [← hV]; exact heap_alloc_new _ _
          have v0 := row_cell hVn 0
          have v1 := row_cell hVn 1
          have v2 := row_cell hVn 2
          have v3 := row_cell hVn 3
          simp only [List.getElem?_toArray, List.getElem?_cons_zero, List.getElem?_cons_succ] at v0 v1 v2 v3
          have hmem := (HM.out.below hb).below hbV
          have hqv := (hq.base HB.out.size).below hbV
          have hBV := hB2.trans (hbV.mono hB2.size)
          obtain ⟨o3, d3, B, r3, hm3, kp3, sz3, os3, tp3, ot3, _⟩ := hmem.push _ hqv (by rw [HQL.out]; omega) (by have := hBV.size; exact this)
          rw [HQL.out] at r3 hm3
          have hBB : Below w.heap.size w B := hBV.trans ⟨os3, tp3, ot3, sz3, fun g hg => kp3 g (Nat.lt_of_lt_of_le hg hBV.size) (fun e => by have := (HM.out.row.lt g e).1; omega)⟩
          have HAP := hid r3
          have HM3 := hid hm3
          have HBB := hid hBB
          have HVE := hid hV
          clear hq hb hB2 hbV hVn hmem hqv hBV r3 hm3 kp3 sz3 os3 tp3 ot3 hBB
          have hk1 : ((4194304 : Int) ≤ (k : Int)) = False := by simp; omega
          have hb2 : ((16777216 : Int) < (tot : Int) + n1 + n2) = False := by simp; omega
          go_wp2_with (at_builtin; refine wpList_append_run rfl (.tmp 53) (.tmp 55) 22 22 rfl rfl rfl HAP.out ?_; clear HAP)
          go_roundw
          case rel => exact ⟨qs ++ [_], _, k + 1, _, i + 1, tot + n1 + n2, i + 1, by go_num, by go_num, by go_num, by go_num, by omega, by have := HYB.out; omega, Nat.le_refl _, by omega, hid (by simp [HQL.out]), hid (by rw [List.map_append]; exact HR2.out), HM3, HBB⟩
          case measure => simp [intOf]; omega
      · have h10' : (x != 10) = true := by simpa using h10
        have HR2 := hid (hn1 h10)
        clear hn1 hn2 h10
        go_wp2
        go_roundw
        case rel => exact ⟨qs, o, k, d, f, tot, i + 1, rfl, rfl, rfl, by go_num, hkf, htf, by omega, by omega, HQL, HR2, HM, HB⟩
        case measure => simp [intOf]; omega
    · have hlt' : ¬ (i : Int) < S.size := by omega
      obtain rfl : i = S.size := by omega
      obtain ⟨h1, h2⟩ := Lra.Rd.end (by rw [Lra.ints_len]; exact HR.out)
      rw [Lra.ints_len] at h1 h2
      rw [List.length_map, HQL.out] at h1
      by_cases hf : f < S.size
      · have hf' : (f : Int) < S.size := by omega
        have HE := hid (h1 hf)
        clear h1 h2
        go_wp2
        go_ret3
        exact .inl ⟨k + 1, HE.out, by push_cast; rfl, HB.out⟩
      · have hf' : ¬ (f : Int) < S.size := by omega
        have HE := hid (h2 hf)
        clear h1 h2
        go_wp2
        go_ret3
        exact .inr ⟨qs, _, HE.out, rfl, HM.out, HB.out⟩
end Go.Proofs.YtdodfmgbjfhnpaaDoor
