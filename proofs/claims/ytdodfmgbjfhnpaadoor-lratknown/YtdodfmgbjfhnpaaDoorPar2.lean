/- A line's step put behind the others. -/
import Derived.Test.YtdodfmgbjfhnpaaDoorPar
import Derived.Stop.RegionWithIn
namespace Go.Proofs.YtdodfmgbjfhnpaaDoor
open Go.RowKit
set_option linter.unusedVariables false
set_option linter.unusedSimpArgs false

/-- An append in a round, whose run is known. -/
theorem uponIn_append {F : Fence} {n l : Nat} {P : Program} {o : Oper} {a : Act} {K : Act → World → Prop} {Q : Exit → Act → World → Prop} {W w' : World} {v : Value} (s x : Operand) (t : TypeId)
    (ho : o.op = .call { callee := .builtin .append, args := #[s, x], argTypes := #[t, t] }) (hr : (Builtin.append_ #[t, t] o.type #[a.eval s, a.eval x]).run P W = .ok v w') (h : K (a.put o.dst v) w') :
    o.uponIn F n P a K Q ((Oper.semAt (some l) a.eval o).run P W) := by
  rw [Oper.semAt_some _ _ _ (fun c => by rw [ho]; intro h; cases h)]
  have e : (execOp a.eval o).run P W = .ok (.value v) w' := by
    unfold execOp
    simp only [ho, resolve, invoke, builtin, Sem.run_bind, Sem.run_pure, Result.andThen_ok, List.map_toArray, List.map_cons, List.map_nil, hr]
  rw [e]
  exact h
/-- What is told of a line is put behind the steps. -/
theorem Par.step {n : Nat} {w W : World} {qs : List Q} {v : Value} {rest : ByteArray} {more : Bool} {x : Lra.Stp} {it : Int} {lv hv : Value} {tot nq : Nat} (h : Par n w W qs v rest more x.kind x.id x.lits x.hints it lv hv tot) (hn : qs.length = nq) (hl : nq ≤ 4194304) {e : Ending} {W5 : World} (hs : StepOut W.drew x.kind x.id x.lits x.hints e W5) :
    ∃ o1 m1 c1 o2 m2 c2 o c B, e = .returned (.agg #[.int .u8 x.kind, .int .i64 x.id, .slice o1 m1 c1, .slice o2 m2 c2]) ∧ Boxed W5 (n + 4) 22 v ∧ Boxed (W5.alloc (.cells #[.int .u8 x.kind, .int .i64 x.id, .slice o1 m1 c1, .slice o2 m2 c2] 43)) (n + 4) 22 v ∧
      (Builtin.append_ #[22, 22] 22 #[v, .slice (some ⟨W5.heap.size, 0, none⟩) 1 1]).run Tryd.prog (W5.alloc (.cells #[.int .u8 x.kind, .int .i64 x.id, .slice o1 m1 c1, .slice o2 m2 c2] 43)) = .ok (.slice o (nq + 1) c) B ∧
      Boxed B (n + 4) 22 v ∧ Par n w (B.setCell ⟨n + 4, 0, none⟩ (.slice o (nq + 1) c)) (qs ++ [(x, .slice o1 m1 c1, .slice o2 m2 c2)]) (.slice o (nq + 1) c) rest more x.kind x.id x.lits x.hints it lv hv tot ∧ ∀ C, KeepsFrom C W (B.setCell ⟨n + 4, 0, none⟩ (.slice o (nq + 1) c)) := by
  subst hn
  obtain ⟨o1, c1, o2, c2, rfl, g1, g2, hb⟩ := hs
  have hb' : Below W.heap.size W W5 := ⟨hb.os, hb.tape, hb.output, hb.size, hb.block⟩
  have h5 := h.below hb'
  have hsz := h.sz
  have hsz' : W.drew.heap.size = W.heap.size := rfl
  rw [hsz'] at g1 g2
  obtain ⟨o, c, B, hr, q1, q2, q3⟩ := h5.push (x, .slice o1 x.lits.length c1, .slice o2 x.hints.length c2) ⟨own_base g1 (by omega), own_base g2 (by omega)⟩ (by
    intro q hq i hi
    simp at hq
    subst hq
    have hi' : W.heap.size ≤ i := by
      rcases hi with hi | hi
      · exact (own_blk g1 hi).1
      · exact (own_blk g2 hi).1
    constructor
    · intro e
      have := (h.rd.lo.lt i e).2
      omega
    · intro e
      have := (h.rd.ho.lt i e).2
      omega) hl
  exact ⟨o1, _, c1, o2, _, c2, o, c, B, rfl, h5.bl, h5.bl.alloc _, hr, q1, q2, fun C => KeepsFrom.trans ⟨hb'.size, fun k o _ hk _ => (hb'.block k (Array.getElem?_eq_some_iff.1 hk).1).trans hk⟩ (q3 C)⟩


set_option maxRecDepth 100000 in
set_option maxHeartbeats 8000000 in
theorem region12 {l m n : Nat} {Q : Exit → Act → World → Prop} {w W4 : World} {qs : List YtdodfmgbjfhnpaaDoor.Q} {rest : ByteArray} {more : Bool} {x : Lra.Stp} {it : Int} {lv hv : Value} {tot nq : Nat} {va : Option Addr} {vc : Nat} (h : Par n w W4 qs (.slice va nq vc) rest more x.kind x.id x.lits x.hints it lv hv tot) (hn : qs.length = nq) (hl : nq ≤ 4194304) (hx1 : x.lits.length ≤ 16777216) (hx2 : x.hints.length ≤ 16777216)
    (hQ : ∀ q v' W' a', q.1 = x → Par n w W' (qs ++ [q]) v' rest more x.kind x.id x.lits x.hints it lv hv tot → (∀ C, KeepsFrom C W4 W') → Q .normal a' W') (t0 t1 t2 t3 t4 t7 t8 t9 t10 t11 t12 t13 t14 t15 t16 t17 t18 t19 t20 t21 t22 t23 t24 t25 t26 t27 t28 t29 t30 t31 t32 t33 t34 t35 t36 t37 t38 : Value) :
    Code.wpIn (Fence.wide.inRound l) m Tryd.prog
    (Code.region 12
      #[{ dst := some 34, op := Op.load 22 (Operand.tmp 5), type := 22, pos := "lrat.go:115", after := #[], guard := none },
        { dst := some 35, op := Op.call { callee := Callee.value (Operand.func 29), args := #[Operand.tmp 6], argTypes := #[59] }, type := 43, pos := "lrat.go:115", after := #[], guard := none },
        { dst := some 36, op := Op.buildSlice 22 1 #[(0, Operand.tmp 35)], type := 22, pos := "lrat.go:115", after := #[{ on := 1, ground := Ground.data }], guard := none },
        { dst := some 37, op := Op.call { callee := Callee.builtin Builtin.append, args := #[Operand.tmp 34, Operand.tmp 36], argTypes := #[22, 22] }, type := 22, pos := "lrat.go:115", after := #[{ on := 0, ground := Ground.data }, { on := 2, ground := Ground.data }, { on := 1, ground := Ground.chain }], guard := none },
        { dst := none, op := Op.store 22 (Operand.tmp 5) (Operand.tmp 37), type := 0, pos := "lrat.go:115", after := #[{ on := 3, ground := Ground.data }, { on := 3, ground := Ground.chain }, { on := 0, ground := Ground.phase }, { on := 1, ground := Ground.phase }, { on := 2, ground := Ground.phase }, { on := 3, ground := Ground.phase }], guard := none }]
      true) Q { tmps := #[t0, t1, t2, t3, t4, Value.pointer (some { block := n + 1 + 1 + 1 + 1, off := 0 }), Value.pointer (some { block := n + 1 + 1 + 1 + 1 + 1, off := 0 }), t7, t8, t9, t10, t11, t12, t13, t14, t15, t16, t17, t18, t19, t20, t21, t22, t23, t24, t25, t26, t27, t28, t29, t30, t31, t32, t33, t34, t35, t36, t37, t38], defers := [] } W4 := by
  have C29 := hid (step29 (n + 8) (n + 5) W4.drew rest more x.kind x.id x.lits x.hints _ lv hv h.rd.drew hx1 hx2)
  have z4d : W4.drew.cell? ⟨n + 4, 0, none⟩ = some (.slice va nq vc) := h.bl.cell
  have ST := hid (fun (e : Ending) (W5 : World) (hs : StepOut W4.drew x.kind x.id x.lits x.hints e W5) => h.step hn hl hs)
  have HQ := hid hQ
  clear hQ h hn hx1 hx2
  generalize x.kind = xk at *
  generalize x.id = xi at *
  generalize x.lits = xl at *
  generalize x.hints = xh at *
  gi_region_with (first
    | (refine uponIn_append (o := ⟨some 37, _, _, _, _, _⟩) (v := .slice o (nq + 1) c) (w' := B) (Operand.tmp 34) (Operand.tmp 36) 22 rfl ?_ ?_; exact HAP.out; go_simp)
    | (rw [Oper.semAt_some _ _ _ (fun c => (by intro h; cases h))]; go_simp; refine ⟨trivial, fun h => (by cases h), ?_⟩; gi_at_call 29; refine (CallsIn.inRound l (callsIn_wide.2 C29.out)).mono ?_; rintro e5 W5 hs5
       obtain ⟨o1, m1, c1, o2, m2, c2, o, c, B, rfl, b1, b2, hr, b3, hpar, hkeep⟩ := ST.out _ _ hs5
       have u1 := b1.cell
       have u2 := b2.cell
       have u3 := b3.cell
       have u4 := b3.frozen
       have HAP := hid hr
       have HPAR := hid hpar
       have HKEEP := hid hkeep
       clear hs5 b1 b2 b3 hr hpar hkeep)
    | (rw [Oper.semAt_some _ _ _ (fun c => (by intro h; cases h))]; go_simp))
  all_goals exact HQ.out _ _ _ _ rfl HPAR.out HKEEP.out
end Go.Proofs.YtdodfmgbjfhnpaaDoor
