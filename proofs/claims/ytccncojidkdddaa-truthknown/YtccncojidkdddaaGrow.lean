/- The stage's theorem, as a call: models fit what follows. -/
import Derived.Test.YtccncojidkdddaaGrow0
import Derived.Test.YtccncojidkdddaaFinds
import Derived.Test.YtccncojidkdddaaOpen
namespace Go.Proofs.Ytccncojidkdddaa
open Go.RowKit Go.Lib Go.Sort Go.Shelf
set_option linter.unusedVariables false
set_option linter.unusedSimpArgs false

theorem info36 : (Try.prog.info? 36).map (fun i => (i.zero, i.size, i.bytes)) = some (some (.slice none 0 0), 1, 24) := by kernel_rfl
/-- The values of a row of clauses. -/
theorem cls_vals {w : World} {ad : Addr} {cs : List (List Int)} (h : Cls w (some ad) cs) : ∃ vals : List Value, vals.length = cs.length ∧ (∀ j u, vals[j]? = some u → w.cell? (ad.add j) = some u) ∧ (∀ u ∈ vals, u.oneCell' = true) ∧ ∀ j, j < cs.length → ∃ a' cap', vals[j]? = some (.slice a' (cs.getD j []).length cap') ∧ Lits w a' (cs.getD j []) := by
  rcases h.2 with h0 | ⟨b, off, e, hl, hc⟩
  · subst h0
    exact ⟨[], rfl, (fun j u hu => (by simp at hu)), (fun u hu => (by cases hu)), (fun j hj => absurd hj (Nat.not_lt_zero j))⟩
  · injection e with e
    subst e
    refine ⟨(List.range cs.length).map (fun j => (w.cell? ⟨b, off + j, none⟩).getD undef), by simp, fun j u hu => ?_, fun u hu => ?_, fun j hj => ?_⟩
    · have hj : j < cs.length := by
        have := (List.getElem?_eq_some_iff.1 hu).1
        simpa using this
      obtain ⟨a', cap', h1, _⟩ := hc j hj
      rw [List.getElem?_map, List.getElem?_range hj, Option.map_some, Option.some.injEq, h1, Option.getD_some] at hu
      subst hu
      rw [← h1]
      unfold Addr.add
      by_cases h0 : j = 0
      · subst h0; rw [if_pos rfl]; rfl
      · rw [if_neg h0]
    · obtain ⟨j, hj, rfl⟩ := List.mem_map.1 hu
      obtain ⟨a', cap', h1, _⟩ := hc j (by simpa using hj)
      rw [h1]; rfl
    · obtain ⟨a', cap', h1, h2⟩ := hc j hj
      exact ⟨a', cap', by rw [List.getElem?_map, List.getElem?_range hj, Option.map_some, h1]; rfl, h2⟩
theorem cls_own {W : World} {base n : Nat} {v : Value} {vals : List Value} {cs : List (List Int)} (hown : W.ownsRow base 36 1 v n vals) (hn : cs.length = n) (hb : ∀ c ∈ cs, c.length ≤ 35184372088832) (hv : ∀ j, j < cs.length → ∃ a' cap', vals[j]? = some (.slice a' (cs.getD j []).length cap') ∧ Lits W a' (cs.getD j [])) : ∃ a cap, v = .slice a n cap ∧ Cls W a cs := by
  rcases hown.2 with ⟨e, h0⟩ | ⟨g, cap, cur, e, h1, h2, h3, h4, h5, h6⟩
  · have : cs = [] := List.eq_nil_of_length_eq_zero (by omega)
    subst this
    exact ⟨none, 0, by rw [e, h0], Cls.zero _ _⟩
  · refine ⟨some ⟨g, 0, none⟩, cap, e, hb, .inr ⟨g, 0, rfl, (Array.getElem?_eq_some_iff.1 h2).1, fun j hj => ?_⟩⟩
    obtain ⟨a', cap', ej, hl⟩ := hv j hj
    refine ⟨a', cap', ?_, hl⟩
    rw [Nat.zero_add, row_cell h2 j, ← Array.getElem?_toList]
    have := congrArg (fun l : List Value => l[j]?) h6
    simp only [Nat.mul_one] at this
    rw [List.getElem?_take_of_lt (by omega)] at this
    rw [this]
    exact ej

theorem wpList_append_run {P : Program} {w w' : World} {ops : Array Oper} {rest : List Oper} {o : Oper} {a : Act} {Q : Exit → Act → World → Prop} (hgd : o.guard = none) (s x : Operand) (t : TypeId)
    (ho : o.op = .call { callee := .builtin .append, args := #[s, x], argTypes := #[t, t] }) {v xv v' : Value} (hs : a.eval s = v) (hx : a.eval x = xv)
    (hrun : (Builtin.append_ #[t, t] o.type #[v, xv]).run P w = .ok v' w') (h : wpList P ops Q rest (a.put o.dst v') w') : wpList P ops Q (o :: rest) a w := by
  refine wpList_plain hgd fun K hK => ?_
  unfold Oper.wp
  simp [execOp, ho, resolve, invoke, builtin, hs, hx, hrun, Result.andThen]
  exact hK _ _ h

theorem append_all (a : Option Addr) (n cap : Nat) (cs : List (List Int)) (W0 W : World) (hW : Below W0.heap.size W0 W) (hn : cs.length = n) (hc : Cls W0 a cs) (hnil : a = none → cap = 0) (h60 : n ≤ 60) :
    ∃ v' W' vals, (Builtin.append_ #[22, 22] 22 #[.slice none 0 0, .slice a n cap]).run Try.prog W = .ok v' W' ∧ W'.ownsRow W.heap.size 36 1 v' n vals ∧ W.grownBy W' none ∧ ∀ j, j < cs.length → ∃ a' cap', vals[j]? = some (.slice a' (cs.getD j []).length cap') ∧ Lits W0 a' (cs.getD j []) := by
  obtain ⟨i0, hi, hz⟩ := Option.map_eq_some_iff.1 info36
  simp only [Prod.mk.injEq] at hz
  obtain ⟨hz0, hz1, hz2⟩ := hz
  cases a with
  | none =>
    obtain rfl := hnil rfl
    have h0 : cs = [] := by
      rcases hc.2 with h | ⟨b, off, e, _⟩
      · exact h
      · cases e
    subst h0
    obtain rfl : n = 0 := by simpa using hn.symm
    exact ⟨_, W, [], run_append_owned_none (P := Try.prog) (w := W) W.heap.size 22 22 36 i0 1 Try.underlying22 hi (.slice none 0 0) 0 [] (World.ownsRow_nil _ _ _ _), World.ownsRow_nil _ _ _ _, World.grownBy.refl _ _, fun j hj => absurd hj (Nat.not_lt_zero j)⟩
  | some ad =>
    obtain ⟨vals, h1, h2, h3, h4⟩ := cls_vals hc
    obtain ⟨v', W', hr, ho, hg, _⟩ := run_append_own (P := Try.prog) W W.heap.size 22 22 36 i0 (.slice none 0 0) 1 24 Try.underlying22 hi hz0 hz1 hz2 rfl (by decide) (.slice none 0 0) 0 [] (World.ownsRow_nil _ _ _ _) ad n cap vals (by omega) (fun j u hu => (hW.cell (World.block_lt_of_cell? W0 _ (h2 j u hu))).trans (h2 j u hu)) h3 (by simp [maxLen]; omega) (by omega) (Nat.le_refl _)
    rw [Nat.zero_add, List.nil_append] at ho
    exact ⟨v', W', vals, hr, ho, hg, h4⟩

theorem own_set {W : World} {base b k e size : Nat} {v : Value} {n : Nat} {xs : List Value} (h : W.ownsRow base e size v n xs) (hb : b < base) (u : Value) : (W.setCell ⟨b, k, none⟩ u).ownsRow base e size v n xs := by
  refine ⟨h.1, h.2.imp id ?_⟩
  rintro ⟨g, c, cur, e1, h1, h2, h3⟩
  exact ⟨g, c, cur, e1, h1, (heap_other W u (by omega)).trans h2, h3⟩
theorem Lits.on {w w' : World} {a : Option Addr} {xs : List Int} {B : Nat} (h : Lits w a xs) (hb : Below B w w') (hB : w.heap.size ≤ B) : Lits w' a xs := h.below (hb.mono hB)

theorem own_slice {W : World} {base n e size : Nat} {v : Value} {xs : List Value} (h : W.ownsRow base e size v n xs) : ∃ o c, v = .slice o n c := by
  rcases h.2 with ⟨e1, h0⟩ | ⟨g, c, cur, e1, _⟩
  · exact ⟨none, 0, by rw [e1, h0]⟩
  · exact ⟨_, _, e1⟩

theorem more_made (vars : Int) (a : Option Addr) (n cap : Nat) (cs : List (List Int)) (ac : Option Addr) (mc capc : Nat) (c : List Int) (w5 : World) (hn : cs.length = n) (hc : Cls w5 a cs) (hnil : a = none → cap = 0) (h60 : n ≤ 60) (hcm : c.length = mc) (hmc : mc ≤ 100) (hcl : Lits w5 ac c) :
    ∃ o1 c1 B1 a9 cap9 B4, (Builtin.append_ #[22, 22] 22 #[.slice none 0 0, .slice a n cap]).run Try.prog (w5.alloc (.cells #[.int .i64 vars, .slice none 0 0] 24)) = .ok (.slice o1 n c1) B1 ∧
      (Builtin.append_ #[22, 22] 22 #[(.slice o1 n c1), .slice (some ⟨B1.heap.size, 0, none⟩) 1 1]).run Try.prog ((B1.setCell ⟨w5.heap.size, 1, none⟩ (.slice o1 n c1)).alloc (.cells #[.slice ac mc capc] 36)) = .ok (.slice a9 (n + 1) cap9) B4 ∧
      B1.heap[w5.heap.size]? = some (.cells #[.int .i64 vars, .slice none 0 0] 24 (0, 0)) ∧ Below w5.heap.size w5 B1 ∧
      B4.heap[w5.heap.size]? = some (.cells #[.int .i64 vars, (.slice o1 n c1)] 24 (0, 0)) ∧ Below w5.heap.size w5 B4 ∧
      Cls (B4.setCell ⟨w5.heap.size, 1, none⟩ (.slice a9 (n + 1) cap9)) a9 (cs ++ [c]) := by
  obtain ⟨i0, hi, hz⟩ := Option.map_eq_some_iff.1 info36
  simp only [Prod.mk.injEq] at hz
  obtain ⟨hz0, hz1, hz2⟩ := hz
  obtain ⟨A5, hA5⟩ : ∃ A5, w5.alloc (.cells #[.int .i64 vars, .slice none 0 0] 24) = A5 := ⟨_, rfl⟩
  have hN : A5.heap[w5.heap.size]? = some (.cells #[.int .i64 vars, .slice none 0 0] 24 (0, 0)) := by rw [← hA5]; exact World.alloc_heap_new _ _
  have hB : Below w5.heap.size w5 A5 := by rw [← hA5]; exact below_box _ _
  have hs5 : A5.heap.size = w5.heap.size + 1 := by rw [← hA5]; simp
  rw [hA5]
  obtain ⟨v1, B1, vals, hr1, ho1, hg1, hv1⟩ := append_all a n cap cs w5 A5 hB hn hc hnil h60
  obtain ⟨o1, c1, hvs⟩ := own_slice ho1
  have hb1 : B1.heap[w5.heap.size]? = some (.cells #[.int .i64 vars, .slice none 0 0] 24 (0, 0)) := (hg1.block _ (by omega) (by simp)).trans hN
  have hB1 : Below w5.heap.size w5 B1 := hB.grown hg1 (by omega) (fun k hk => by cases hk)
  obtain ⟨B2, hB2⟩ : ∃ B2, B1.setCell ⟨w5.heap.size, 1, none⟩ v1 = B2 := ⟨_, rfl⟩
  have hb2 : B2.heap[w5.heap.size]? = some (.cells #[.int .i64 vars, v1] 24 (0, 0)) := by rw [← hB2]; exact heap_set_row hb1 v1
  have hBB2 : Below w5.heap.size w5 B2 := by rw [← hB2]; exact hB1.setCell (Nat.le_refl _) _
  have ho2 : B2.ownsRow A5.heap.size 36 1 v1 n vals := by rw [← hB2]; exact own_set ho1 (by omega) v1
  have hs2 : A5.heap.size ≤ B2.heap.size := by rw [← hB2]; have := hg1.size; simpa [World.setCell] using this
  obtain ⟨B3, hB3⟩ : ∃ B3, B2.alloc (.cells #[.slice ac mc capc] 36) = B3 := ⟨_, rfl⟩
  have hM : B3.heap[B2.heap.size]? = some (.cells #[.slice ac mc capc] 36 (0, 0)) := by rw [← hB3]; exact World.alloc_heap_new _ _
  have h23 : Below B2.heap.size B2 B3 := by rw [← hB3]; exact below_box _ _
  have ho3 := own_below ho2 h23
  have hs3 : B3.heap.size = B2.heap.size + 1 := by rw [← hB3]; simp
  obtain ⟨v2, B4, hr2, ho4, hg4, _⟩ := run_append_own (P := Try.prog) B3 A5.heap.size 22 22 36 i0 (.slice none 0 0) 1 24 Try.underlying22 hi hz0 hz1 hz2 rfl (by decide) v1 n vals ho3 ⟨B2.heap.size, 0, none⟩ 1 1 [.slice ac mc capc] rfl (fun j u hu => by
    cases j with
    | zero => simp at hu; subst hu; rw [show (⟨B2.heap.size, 0, none⟩ : Addr).add 0 = ⟨B2.heap.size, 0, none⟩ from rfl, row_cell hM 0]; rfl
    | succ j => simp at hu) (by simp [Value.oneCell']) (by simp [maxLen]; omega) (by omega) (by omega)
  have hvn : ∀ k, v1.ownBlock = some k → A5.heap.size ≤ k := fun k hk => by
    rcases ho3.2 with ⟨e, _⟩ | ⟨g, cp, cur, e1, h1, _⟩
    · rw [e] at hk; simp [Value.ownBlock] at hk
    · rw [e1] at hk; simp [Value.ownBlock] at hk; omega
  have hb4 : B4.heap[w5.heap.size]? = some (.cells #[.int .i64 vars, v1] 24 (0, 0)) := (hg4.block _ (by omega) (fun h => by have := hvn _ h.symm; omega)).trans ((h23.block _ (by omega)).trans hb2)
  have hBB3 : Below w5.heap.size w5 B3 := hBB2.trans (h23.mono (by omega))
  have hBB4 : Below w5.heap.size w5 B4 := hBB3.grown hg4 (by omega) (fun k hk => by have := hvn k hk; omega)
  have hB5 : Below w5.heap.size w5 (B4.setCell ⟨w5.heap.size, 1, none⟩ v2) := hBB4.setCell (Nat.le_refl _) _
  have hll : (cs ++ [c]).length = n + 1 := by simp [hn]
  obtain ⟨a9, cap9, hv2, hcl9⟩ := cls_own (cs := cs ++ [c]) (own_set (b := w5.heap.size) (k := 1) ho4 (by omega) v2) hll (fun d hd => by
    rcases List.mem_append.1 hd with h | h
    · exact hc.1 d h
    · have : d = c := by simpa using h
      subst this; omega) (fun j hj => by
    rw [hll] at hj
    by_cases hjn : j < n
    · obtain ⟨a', cap', e1, e2⟩ := hv1 j (by omega)
      have e3 : (cs ++ [c]).getD j [] = cs.getD j [] := by simp [List.getD, List.getElem?_append_left (show j < cs.length by omega)]
      have hlv : vals.length = n := by have := ho1.1; omega
      rw [e3]
      refine ⟨a', cap', by rw [List.getElem?_append_left (by omega)]; exact e1, e2.below hB5⟩
    · obtain rfl : j = n := by omega
      have e3 : (cs ++ [c]).getD j [] = c := by rw [← hn]; simp [List.getD]
      have hlv : vals.length = j := by have := ho1.1; omega
      rw [e3]
      exact ⟨ac, capc, by rw [List.getElem?_append_right (by omega), hlv, Nat.sub_self, hcm]; rfl, hcl.below hB5⟩)
  subst hv2
  subst hvs
  exact ⟨o1, c1, B1, a9, cap9, B4, hr1, by rw [hB2, hB3, show B1.heap.size = B2.heap.size by rw [← hB2]; simp [World.setCell]]; exact hr2, hb1, hB1, hb4, hBB4, hcl9⟩

theorem cls_open2 {H : Type} {enc : TypeId × Value → H} {W : World} {v : Value} {fuel : Nat} {y : DataW H × List MemPlace}
    (h : DataW.trod enc Try.prog W 0 (fun _ => true) true fuel 22 [v] = some y) (hw : ∀ x ∈ y.1.weights Try.prog 22, x ≤ reachBytes) :
    ∃ a n cap cs, v = .slice a n cap ∧ cs.length = n ∧ Cls W a cs ∧ n ≤ 8796093022208 ∧ (a = none → cap = 0) := by
  obtain ⟨a, n, cap, cs, rfl, h1, h2, h3⟩ := cls_open h hw
  refine ⟨a, n, cap, cs, rfl, h1, h2, h3, fun ha => ?_⟩
  rcases Go.Deep.open_int_rows Try.underlying22 Try.underlying36 Try.underlying44 (by kernel_rfl) (by kernel_rfl) h with ⟨hcs, _⟩ | ⟨x, len, cap', A, L, C, Z, hcs, _⟩
  · simp at hcs
    exact hcs.2.2
  · simp at hcs
    rw [ha] at hcs
    simp at hcs

set_option maxRecDepth 100000 in
set_option maxHeartbeats 16000000 in
theorem law5 (vars : Int) (a ac : Option Addr) (n cap mc capc : Nat) (cs : List (List Int)) (c : List Int) (w : World) (hn : cs.length = n) (hN : n ≤ 8796093022208) (hc : Cls w a cs) (hcm : c.length = mc) (hcl : Lits w ac c) (hnil : a = none → cap = 0) :
    Calls Try.prog 5 #[.agg #[.int .i64 vars, .slice a n cap], .slice ac mc capc] w fun e w' => e = .returned (.bool true) ∧ Below w.heap.size w w' := by
  have C7 := hid (small7 vars a n cap cs (w.alloc (.cells #[.int .i64 vars, .slice a n cap] 24)) hn hN (hc.below (below_box _ _)))
  have C8 := hid (fun (W : World) (hW : Below w.heap.size w W) => find8_all vars a n cap cs W hn (hc.below hW))
  have C10 := hid (fun (W : World) (hW : Below w.heap.size w W) => count10_all vars a n cap cs W hn (hc.below hW))
  have C14 := hid (fun (W : World) (hW : Below w.heap.size w W) (h : mc ≤ 100) => implies14_all vars a ac n cap mc capc cs c W hn (hc.below hW) hcm (by omega) (hcl.below hW))
  have HC := hid hc
  have HCL := hid hcl
  have HNn := hid hn
  have HCM := hid hcm
  have HFC := hid (fun (bs : List Bool) (ok : Bool) (er : Int) (h : Tru.FW vars cs bs ok er) => Tru.find_count h)
  have HNIL := hid hnil
  clear hn hc hN hcm hcl hnil
  go_enter Try.func5, Try.ntmps5
  go_wp2_with fail
  refine C7.out.mono ?_
  rintro e w1 ⟨⟨b, rfl, hsm⟩, hb⟩
  have far1 := hid (show Far w (.int .i64 vars) (.slice a n cap) w1 from hb)
  clear hb C7
  cases b
  · go_wp2
    go_ret
    exact ⟨rfl, far1.out.below⟩
  have HSM := hid (hsm rfl)
  clear hsm
  by_cases h100 : 100 < mc
  · have h100' : (100 : Int) < mc := by omega
    go_wp2
    go_ret
    exact ⟨rfl, far1.out.below⟩
  have h100' : ¬ (100 : Int) < mc := by omega
  have hmc : Hid (mc ≤ 100) := hid (by omega)
  clear h100
  have x0 := far1.out.c0
  have x1 := far1.out.c1
  go_wp2_with fail
  refine (C8.out _ far1.out.below).mono ?_
  rintro e w2 ⟨⟨a2, cap2, bs, ok, er, rfl, hb2, hf2⟩, hw2⟩
  have far2 := hid (far1.out.on hw2)
  clear hw2 C8 x0 x1
  have x0 := far2.out.c0
  have x1 := far2.out.c1
  obtain ⟨F1, F2, F3⟩ := HFC.out bs ok er hf2
  have hlen := sameModel_len hf2
  subst F1
  have HB2 := hid hb2
  have HF2 := hid F2
  have HF3 := hid F3
  have HLEN := hid hlen
  clear hb2 hf2 F2 F3 HFC h100' hlen
  obtain ⟨L, hL⟩ : ∃ L, bs.length = L := ⟨_, rfl⟩
  have HL := hid hL
  rw [hL]
  clear hL
  go_wp2_with fail
  refine (C10.out _ far2.out.below).mono ?_
  rintro e w3 ⟨rfl, hw3⟩
  have far3 := hid (far2.out.on hw3)
  have HW3 := hid hw3
  clear hw3 C10 x0 x1
  by_cases ht : Tru.taken vars cs = 0
  case neg =>
    have q := HF2.out ht
    obtain rfl : L = 0 := by rw [← HL.out, q.1]; rfl
    obtain rfl : ok = false := q.2
    clear q
    generalize Tru.taken vars cs = tk at ht
    generalize Tru.countV vars cs = cv
    go_wp2_with fail
    refine (works13 w3).mono ?_
    rintro e w7 ⟨rfl, hw7⟩
    have B7 := hid (far3.out.below.trans (hw7.mono far3.out.below.size))
    clear hw7
    go_wp2
    go_ret
    exact ⟨rfl, B7.out⟩
  case pos =>
    rw [ht]
    have HT := hid ht
    have HF4 := hid (HF3.out ht)
    have HF2 := trivial
    clear ht HF3
    obtain ⟨cv, hcv⟩ : ∃ cv, Tru.countV vars cs = cv := ⟨_, rfl⟩
    have HCV := hid hcv
    rw [hcv] at HF4 ⊢
    clear hcv
    have hok := HF4.out.1
    have HBD := hid (clause_bnd (w := w) (a := a) (Nat.le_trans HSM.out.2.1 (by decide)))
    have CI := hid (fun (W : World) (hW : Below w.heap.size w W) (j : Nat) (hj : j < n) (a' : Option Addr) (cap' : Nat) (hl : Lits W a' (cs.getD j [])) => implies14_all vars a a' n cap (cs.getD j []).length cap' cs (cs.getD j []) W HNn.out (HC.out.below hW) rfl (HBD.out _ (Cnf.getD_cls cs j (by rw [HNn.out]; exact hj))) hl)
    have HIM := hid (fun (j : Nat) (hj : j < n) => Tru.impB_mem vars cs (cs.getD j []) HT.out (Cnf.getD_cls cs j (by rw [HNn.out]; exact hj)))
    cases ok
    case' false =>
      have hcv1 : cv = 0 := by
        rcases Nat.eq_zero_or_pos cv with h | h
        · exact h
        · rw [decide_eq_true h] at hok
          cases hok
      subst hcv1
      clear hok
      have x0 := far3.out.c0
      have x1 := far3.out.c1
      go_wp2
      clear x0 x1
      have farl := far3
      generalize w3 = wl at farl ⊢
    case' true =>
      have hcv0 : (0 : Int) < (cv : Int) := by
        have := of_decide_eq_true hok.symm
        omega
      clear hok
      have hLV : vars = (L : Int) := by rw [← (HF4.out.2.1 rfl).2, HL.out]
      have hLV' : ((L : Int) != vars) = false := by rw [hLV]; simp
      have C18 := hid (holds18 vars a a2 n cap L cap2 cs bs w3 HNn.out (by have := HSM.out.1; omega) HL.out (by have := HLEN.out; rw [HL.out] at this; omega) HBD.out (HC.out.below far3.out.below) (HB2.out.below HW3.out))
      rw [(HF4.out.2.1 rfl).1] at C18
      have x0 := far3.out.c0
      have x1 := far3.out.c1
      clear hLV
      go_wp2_with (go_at_call 18; refine C18.out.mono ?_; clear C18; rintro e wl ⟨rfl, hw4⟩; clear x0 x1; have farl := hid (far3.out.on hw4); clear hw4; have x0 := farl.out.c0; have x1 := farl.out.c1)
      clear x0 x1 hLV' hcv0
    all_goals
      clear far1 far2 far3 HW3 HB2
      go_loopw [10] (fun i wr => ∃ j : Nat, j ≤ n ∧ i = .int .i64 j ∧ Hid (Far w (.int .i64 vars) (.slice a n cap) wr)) (fun i _ => n - (intOf i).toNat)
      case atStart => exact ⟨0, Nat.zero_le _, rfl, farl⟩
      case round =>
        clear farl
        obtain ⟨j, hj, rfl, far⟩ := hrel
        have x0 := far.out.c0
        have x1 := far.out.c1
        by_cases hlt : j < n
        · have hlt' : (j : Int) < n := by omega
          obtain ⟨b1, o1, a', cap', rfl, hbl, hcell, hlits, _⟩ := HC.out.at (k := j) (by rw [HNn.out]; exact hlt)
          have hcc := (far.out.below.cell (p := ⟨b1, o1 + j, none⟩) hbl).trans hcell
          have S1 : ∀ W, Below wr.heap.size wr W → W.cell? ⟨w.heap.size, 0, none⟩ = some (.int .i64 vars) ∧ W.cell? ⟨w.heap.size, 1, none⟩ = some (.slice (some ⟨b1, o1, none⟩) n cap) ∧ W.cell? ⟨b1, o1 + j, none⟩ = some (.slice a' (cs.getD j []).length cap') ∧ Below wr.heap.size wr W := fun W hW => ⟨(far.out.on hW).c0, (far.out.on hW).c1, (hW.cell (p := ⟨b1, o1 + j, none⟩) (Nat.lt_of_lt_of_le hbl far.out.below.size)).trans hcc, hW⟩
          have CJ := hid (fun (W : World) (hW : Below wr.heap.size wr W) => (CI.out W (far.out.on hW).below j hlt a' cap' (hlits.below (far.out.on hW).below)).mono (R' := fun e w' => e = .returned (.tuple #[.bool true, .int .i64 0]) ∧ w'.cell? ⟨w.heap.size, 0, none⟩ = some (.int .i64 vars) ∧ w'.cell? ⟨w.heap.size, 1, none⟩ = some (.slice (some ⟨b1, o1, none⟩) n cap) ∧ w'.cell? ⟨b1, o1 + j, none⟩ = some (.slice a' (cs.getD j []).length cap') ∧ Below wr.heap.size wr w') fun e w' h => ⟨by rw [h.1, (HIM.out j hlt).1, (HIM.out j hlt).2], S1 w' (hW.trans (h.2.mono hW.size))⟩)
          have kk := S1 wr.drew (Below.refl _ _).drew
          have KK := hid kk
          clear kk S1 hcell hlits hbl
          generalize (cs.getD j []).length = lj at hcc CJ KK
          have hn60 : n ≤ 60 := HSM.out.1
          go_wp2
          go_region_held3 (fun W => W.cell? ⟨w.heap.size, 0, none⟩ = some (.int .i64 vars) ∧ W.cell? ⟨w.heap.size, 1, none⟩ = some (.slice (some ⟨b1, o1, none⟩) n cap) ∧ W.cell? ⟨b1, o1 + j, none⟩ = some (.slice a' lj cap') ∧ Below wr.heap.size wr W)
            (first | exact KK.out | exact ⟨y0, y1, y2, hb8⟩)
            ((go_at_call 14; refine (CJ.out _ ?_).mono ?_; exact (Below.refl _ _).drew; rintro e w8 ⟨rfl, y0, y1, y2, hb8⟩))
          all_goals
            have far9 := hid (far.out.on hb8)
            clear hb8 y0 y1 y2 KK CJ
            go_wp2
            go_roundw
            case rel => exact ⟨j + 1, by omega, by go_num, far9⟩
            case measure => simp [intOf]; omega
        · have hge : ¬ (j : Int) < n := by omega
          obtain rfl : j = n := by omega
          clear CI HIM
          rename World => wm
          have CM := hid (C14.out _ far.out.below hmc.out)
          obtain ⟨ib, hib⟩ : ∃ ib, Tru.impB vars cs c = ib := ⟨_, rfl⟩
          have HIB := hid hib
          by_cases hie : Tru.impE vars cs c = 0
          case neg =>
            rw [hib] at CM
            generalize Tru.impE vars cs c = ie at CM hie
            clear hib HIB C14
            go_wp2_with (first
              | (go_at_call 14; refine CM.out.mono ?_; clear CM; rintro e w5 ⟨rfl, hw5⟩; have B5 := hid (far.out.below.trans (hw5.mono far.out.below.size)); clear hw5 x0 x1)
              | (go_at_call 13; refine (works13 w5).mono ?_; rintro e w6 ⟨rfl, hw6⟩; have B6 := hid (B5.out.trans (hw6.mono B5.out.size)); clear hw6))
            go_ret
            exact ⟨rfl, B6.out⟩
          case pos =>
            obtain ⟨M1, M2, M3, M4, M5, M6⟩ := Tru.more_all vars cs c HT.out hie (by rw [HNn.out]; exact HSM.out.1) HSM.out.2.1 (by rw [HCM.out]; exact hmc.out)
            rw [hib, hie] at CM
            rw [hib] at M3 M4 M6
            rw [HCV.out] at M2 M3
            have HM1 := hid M1
            have HM4 := hid M4
            have HM5 := hid M5
            have HM6 := hid M6
            obtain ⟨cw, hcw⟩ : ∃ cw, Tru.countV vars (cs ++ [c]) = cw := ⟨_, rfl⟩
            rw [hcw] at M2 M3
            have HCW := hid hcw
            have HM2 := hid M2
            have HM3 := hid M3
            clear M1 M2 M3 M4 M5 M6 hcw hib hie C14
            cases ib
            case' true =>
              have ecw : cw = _ := of_decide_eq_true HM3.out
              subst ecw
            case' false =>
              have hne : Hid (¬ cw = _) := hid (of_decide_eq_false HM3.out)
              first
                | (exfalso; have q := HF4.out.2.2 trivial c; rw [← HM6.out] at q; cases q)
                | (have hne2 : ((cw : Int) == (cv : Int)) = false := (by have := hne.out; simp; omega)
                   have hle : (cw : Int) ≤ cv := (by have := HM2.out; omega))
            all_goals
              go_wp2_with (first
                | (go_at_call 14; refine CM.out.mono ?_; clear CM; rintro e w5 ⟨rfl, hw5⟩; have far5 := hid (far.out.on hw5); clear hw5 x0 x1
                   obtain ⟨o7, c7, B1, a9, cap9, B4, hr1, hr2, hb1, hB1, hb4, hB4, hcl9⟩ := more_made vars a j cap cs ac mc capc c w5 HNn.out (HC.out.below far5.out.below) HNIL.out HSM.out.1 HCM.out hmc.out (HCL.out.below far5.out.below)
                   have hws : w.heap.size < w5.heap.size := (by have := Below.size far5.out; simp at this; omega)
                   obtain ⟨A5, hA5⟩ : ∃ A5, w5.alloc (.cells #[.int .i64 vars, .slice none 0 0] 24) = A5 := ⟨_, rfl⟩
                   have hBA : Below w5.heap.size w5 A5 := (by rw [← hA5]; exact below_box _ _)
                   have hNA : A5.heap[w5.heap.size]? = some (.cells #[.int .i64 vars, .slice none 0 0] 24 (0, 0)) := (by rw [← hA5]; exact World.alloc_heap_new _ _)
                   have p8 := far5.out.c0
                   have p0 := (far5.out.on hBA).c0
                   have p1 := (far5.out.on hBA).c1
                   have p2 := row_cell hNA 1
                   have q0 := row_frozen hNA 0
                   have q1 := row_frozen hNA 1
                   have p3 := row_cell hb1 1
                   have p4 := row_frozen hb1 1
                   have p5 := row_cell hb4 1
                   have p6 := row_frozen hb4 1
                   simp only [List.getElem?_toArray, List.getElem?_cons_zero, List.getElem?_cons_succ] at p2 p3 p5
                   rw [← hA5] at p0 p1 p2 q0 q1
                   have far9 := hid (show Far w (.int .i64 vars) (.slice a j cap) (B4.setCell ⟨w5.heap.size, 1, none⟩ (.slice a9 (j + 1) cap9)) from far5.out.on (hB4.setCell (Nat.le_refl _) _))
                   have h9 := heap_set_row (k := 1) hb4 (.slice a9 (j + 1) cap9)
                   have H9 := hid h9
                   have HCL9 := hid hcl9
                   have HR1 := hid hr1
                   have HR2 := hid hr2
                   have P3 := hid p3
                   have P4 := hid p4
                   have P5 := hid p5
                   have P6 := hid p6
                   clear h9 hcl9 hBA hNA hb1 hB1 hb4 hB4 hr1 hr2 p3 p4 p5 p6 hA5)
                | (at_builtin; refine wpList_append_run rfl (.tmp 112) (.tmp 114) 22 rfl rfl rfl HR1.out ?_; have p3 := P3.out; have p4 := P4.out; clear p0 p1 p2 p8 q0 q1)
                | (at_builtin; refine wpList_append_run rfl (.tmp 118) (.tmp 120) 22 rfl rfl rfl HR2.out ?_; have p5 := P5.out; have p6 := P6.out; clear p3 p4; have r0 := row_cell H9.out 0; have r1 := row_cell H9.out 1; simp at r0 r1; have s0 := far9.out.c0; have s1 := far9.out.c1)
                | (go_at_call 10; refine (count10_all vars a9 (j + 1) cap9 (cs ++ [c]) _ (by simp [HNn.out]) HCL9.out).mono ?_; rintro e w7 ⟨he, hw7⟩; rw [HCW.out, HM1.out] at he; subst he
                   have far7 := hid (far9.out.on hw7)
                   have h7 := (hw7.block w5.heap.size (Array.getElem?_eq_some_iff.1 H9.out).1).trans H9.out
                   clear r0 r1 s0 s1 p5 p6
                   have r0 := row_cell h7 0
                   have r1 := row_cell h7 1
                   simp at r0 r1
                   have s0 := far7.out.c0
                   have s1 := far7.out.c1
                   have HCL7 := hid (HCL9.out.below hw7)
                   clear h7 hw7)
                | (go_at_call 16; refine (alike16_all vars vars a a9 j cap (j + 1) cap9 cs (cs ++ [c]) _ HNn.out (HC.out.below far7.out.below) (by simp [HNn.out]) HCL7.out).mono ?_; rintro e w8 ⟨he, hw8⟩; rw [HM4.out, HM5.out] at he; subst he
                   have B8 := hid (far7.out.below.trans (hw8.mono far7.out.below.size))
                   clear hw8 r0 r1 s0 s1)
                | (go_at_call 13; refine (works13 w8).mono ?_; rintro e w9 ⟨rfl, hw9⟩; have B9 := hid (B8.out.trans (hw9.mono B8.out.size)); clear hw9))
              go_ret
              exact ⟨rfl, B9.out⟩
end Go.Proofs.Ytccncojidkdddaa
