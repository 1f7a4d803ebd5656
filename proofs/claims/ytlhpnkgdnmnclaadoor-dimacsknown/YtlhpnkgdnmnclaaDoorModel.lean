/- The call of Model: the values of a text, read and written anew. -/
import Derived.Test.YtlhpnkgdnmnclaaDoorSign
import Derived.Test.YtlhpnkgdnmnclaaDoorStr
import Derived.Deep.AppendLies
namespace Go.Proofs.YtlhpnkgdnmnclaaDoor
open Go.RowKit
set_option linter.unusedVariables false

theorem ints_I (S : ByteArray) : Dim.ints S = Dim.I S.data.toList := rfl
theorem ints_bstr (x : List UInt8) : Dim.ints (bstr x) = Dim.I x := by simp [Dim.ints, bstr, Dim.I]

theorem ne_str (A B : ByteArray) (h : ¬ A = B) : (A.toList == B.toList) = false := by
  rw [beq_eq_false_iff_ne, ByteArray.toList_eq, ByteArray.toList_eq]
  intro e
  exact h (ByteArray.ext (Array.toList_inj.1 e))
/-- An append in a round, whose run is known. -/
theorem uponIn_append {F : Fence} {n l : Nat} {P : Program} {o : Oper} {a : Act} {K : Act → World → Prop} {Q : Exit → Act → World → Prop} {W w' : World} {v : Value} (s x : Operand) (t : TypeId)
    (ho : o.op = .call { callee := .builtin .append, args := #[s, x], argTypes := #[t, t] }) (hr : (Builtin.append_ #[t, t] o.type #[a.eval s, a.eval x]).run P W = .ok v w') (h : K (a.put o.dst v) w') :
    o.uponIn F n P a K Q ((Oper.semAt (some l) a.eval o).run P W) := by
  rw [Oper.semAt_some _ _ _ (fun c => by rw [ho]; intro h; cases h)]
  have e : (execOp a.eval o).run P W = .ok (.value v) w' := by
    unfold execOp
    simp only [ho, resolve, invoke, builtin, Sem.run_bind, Sem.run_pure, Result.andThen_ok, List.map_toArray, List.map_cons, List.map_nil, hr]
  rw [e]
  exact h

set_option maxHeartbeats 2000000 in
theorem model18_arg (S : ByteArray) (vars : Int) (w : World) (h : vars < 0 ∨ 1048576 < vars) :
    Calls Tryd.prog 18 #[.string S, .int .i64 vars] w fun e w' => e = .returned (.tuple #[.slice none 0 0, .int .i64 2]) ∧ Below w.heap.size w w' := by
  have hz : Tryd.f18.results = #[.tmp 4, .tmp 5] := rfl
  refine (callsIn_wide (n := 9)).1 ?_
  refine callsIn_of_wp_marks Tryd.func18 rfl trivial ?_ rfl
  simp only [Tryd.ntmps18, List.size_toArray, List.length_cons, List.length_nil, Nat.reduceAdd, Nat.reduceSub, Array.replicate_succ, Array.replicate_zero, List.push_toArray, List.append_toArray, List.nil_append, List.cons_append]
  by_cases h0 : vars < 0
  · clear h
    gi_wp2
    exact leave_marks (Marks.nil w.heap.size _) fun W2 hb => ⟨_, results_tmp2 rfl _ _ _, rfl, Book.below (below_box _ _) (Nat.le_refl _) hb (by simp) (Nat.le_refl _)⟩
  · have h1 : 1048576 < vars := by omega
    clear h
    gi_wp2
    exact leave_marks (Marks.nil w.heap.size _) fun W2 hb => ⟨_, results_tmp2 rfl _ _ _, rfl, Book.below (below_box _ _) (Nat.le_refl _) hb (by simp) (Nat.le_refl _)⟩

set_option maxRecDepth 100000 in
set_option maxHeartbeats 4000000 in
theorem model18 (S : ByteArray) (vars : Nat) (w : World) (hS : S.size ≤ 100000) (hv : vars ≤ 1048576)
    (htab : Lib.TabBelow Tryd.prog w.heap.size w "internal/strconv.uint64pow10" .u64 Lib.pow10Tab) :
    Calls Tryd.prog 18 #[.string S, .int .i64 vars] w fun e w' =>
      (((Dim.rd vars (Dim.allW (Dim.ints S))).length = vars ∧ bstr (Dim.valuesB (Dim.rd vars (Dim.allW (Dim.ints S)))) = S ∧ ∃ a cap, e = .returned (.tuple #[.slice a vars cap, .int .i64 0]) ∧ Bools w' a (Dim.rd vars (Dim.allW (Dim.ints S)))) ∨
        (¬ ((Dim.rd vars (Dim.allW (Dim.ints S))).length = vars ∧ bstr (Dim.valuesB (Dim.rd vars (Dim.allW (Dim.ints S)))) = S) ∧ e = .returned (.tuple #[.slice none 0 0, .int .i64 21]))) ∧ Below w.heap.size w w' := by
  have HT := hid htab
  clear htab
  have HNE := hid (Dim.items_ne (Dim.lines (Dim.ints S)) 0)
  obtain ⟨its, hits⟩ : ∃ its, Dim.items 0 (Dim.lines (Dim.ints S)) = its := ⟨_, rfl⟩
  rw [show Dim.allW (Dim.ints S) = its.map Prod.snd by unfold Dim.allW; rw [hits]]
  rw [hits] at HNE
  have HITS := hid hits
  clear hits
  obtain ⟨ms, hms⟩ : ∃ ms, Dim.rd vars (its.map Prod.snd) = ms := ⟨_, rfl⟩
  rw [hms]
  have HMS := hid hms
  clear hms
  have hv0 : ¬ (vars : Int) < 0 := by omega
  have hv1 : ¬ (1048576 : Int) < vars := by omega
  refine (callsIn_wide (n := 9)).1 ?_
  refine callsIn_of_wp_marks Tryd.func18 rfl trivial ?_ rfl
  simp only [Tryd.ntmps18, List.size_toArray, List.length_cons, List.length_nil, Nat.reduceAdd, Nat.reduceSub, Array.replicate_succ, Array.replicate_zero, List.push_toArray, List.append_toArray, List.nil_append, List.cons_append]
  have cvt1 := Lib.run_convert_string_bytes (P := Tryd.prog) ((w.alloc (.cells #[.int .i64 vars] 3)).alloc (.cells #[.slice none 0 0] 33)) 9 22 5 S Tryd.underlying9 Tryd.underlying22 Tryd.underlying5
  obtain ⟨WA, hWA⟩ : ∃ WA, (w.alloc (.cells #[.int .i64 vars] 3)).alloc (.cells #[.slice none 0 0] 33) = WA := ⟨_, rfl⟩
  have sA : WA.heap.size = w.heap.size + 1 + 1 := by rw [← hWA]; simp
  have bA : Below w.heap.size w WA := by rw [← hWA]; exact ((Below.refl _ w).alloc (Nat.le_refl _) _).alloc (by simp) _
  have xA0 : Boxed WA w.heap.size 3 (.int .i64 vars) := by
    have := (Boxed.new w 3 (.int .i64 vars)).alloc (.cells #[.slice none 0 0] 33)
    rwa [hWA] at this
  have xA1 : Boxed WA (w.heap.size + 1) 33 (.slice none 0 0) := by
    have := Boxed.new (w.alloc (.cells #[.int .i64 vars] 3)) 33 (.slice none 0 0)
    rw [hWA] at this; simpa using this
  obtain ⟨W5, hW5⟩ : ∃ W5, Lib.bytesWorld WA 5 S = W5 := ⟨_, rfl⟩
  have b5 : Below WA.heap.size WA W5 := by rw [← hW5]; exact bytes_below WA S
  have s5 : W5.heap.size = w.heap.size + 1 + 1 + 1 := by rw [← hW5, Lib.bytesWorld_size, sA]
  obtain ⟨cp, hcp⟩ : ∃ cp, grownCap WA S.size 0 5 = cp := ⟨_, rfl⟩
  have t5 : Txt (w.heap.size + 1 + 1) W5 (some ⟨w.heap.size + 1 + 1, 0, none⟩) cp (Dim.ints S) := by
    rw [← hW5, ← hcp, ← sA]
    refine ⟨?_, ?_, ⟨?_, ?_⟩, .inr ⟨0, rfl, fun i hi => ?_⟩⟩
    · intro x hx
      obtain ⟨b, _, rfl⟩ := List.mem_map.1 hx
      have := b.toNat_lt
      omega
    · rw [Dim.ints_len]; exact grownCap_ge WA S.size 0 5
    · rw [Dim.ints_len]; omega
    · exact grownCap_le_maxLen WA S.size 0 5 (by unfold maxLen; omega)
    · rw [Dim.ints_len] at hi
      rw [Nat.zero_add, Lib.bytesWorld_cell WA 5 S i hi]
      have h2 : i < S.data.toList.length := by rw [Array.length_toList]; exact hi
      unfold Dim.ints List.getD
      rw [List.getElem?_map, List.getElem?_eq_getElem h2]
      rfl
  have tb5 : TB (w.heap.size + 1 + 1) W5 := by rw [← hW5, ← sA]; exact ⟨_, _, Lib.bytesWorld_at_new WA 5 S⟩
  rw [hWA, hW5, hcp, sA] at cvt1
  obtain ⟨W8, hW8⟩ : ∃ W8, ((W5.alloc (.cells #[.int .i64 0] 3)).alloc (.cells #[.slice (some ⟨w.heap.size + 1 + 1, 0, none⟩) S.size cp] 22)).alloc (.cells #[cnt (w.heap.size + 1 + 1 + 1)] 53) = W8 := ⟨_, rfl⟩
  have b8 : Below W5.heap.size W5 W8 := by rw [← hW8]; exact (((Below.refl _ W5).alloc (Nat.le_refl _) _).alloc (by simp) _).alloc (by simp; omega) _
  have s8 : W8.heap.size = w.heap.size + 6 := by rw [← hW8]; simp; omega
  have X0 : Boxed W8 w.heap.size 3 (.int .i64 vars) := (b8.block _ (by omega)).trans ((b5.block _ (by omega)).trans xA0)
  have X1 : Boxed W8 (w.heap.size + 1) 33 (.slice none 0 0) := (b8.block _ (by omega)).trans ((b5.block _ (by omega)).trans xA1)
  have X3 : Boxed W8 (w.heap.size + 1 + 1 + 1) 3 (.int .i64 ((0 : Nat) : Int)) := by
    have := ((Boxed.new W5 3 (.int .i64 0)).alloc (.cells #[.slice (some ⟨w.heap.size + 1 + 1, 0, none⟩) S.size cp] 22)).alloc (.cells #[cnt (w.heap.size + 1 + 1 + 1)] 53)
    rw [hW8, s5] at this; exact this
  have X4 : Boxed W8 (w.heap.size + 4) 22 (.slice (some ⟨w.heap.size + 1 + 1, 0, none⟩) S.size cp) := by
    have := (Boxed.new (W5.alloc (.cells #[.int .i64 0] 3)) 22 (.slice (some ⟨w.heap.size + 1 + 1, 0, none⟩) S.size cp)).alloc (.cells #[cnt (w.heap.size + 1 + 1 + 1)] 53)
    rw [hW8] at this; simpa [s5] using this
  have X5 : Boxed W8 (w.heap.size + 5) 53 (cnt (w.heap.size + 1 + 1 + 1)) := by
    have := Boxed.new ((W5.alloc (.cells #[.int .i64 0] 3)).alloc (.cells #[.slice (some ⟨w.heap.size + 1 + 1, 0, none⟩) S.size cp] 22)) 53 (cnt (w.heap.size + 1 + 1 + 1))
    rw [hW8] at this; simpa [s5] using this
  have T8 : Txt (w.heap.size + 1 + 1) W8 (some ⟨w.heap.size + 1 + 1, 0, none⟩) cp (Dim.ints S) := t5.kept (b8.block _ (by omega))
  have TB8 : TB (w.heap.size + 1 + 1) W8 := tb5.same (b8.block _ (by omega))
  have B8 : Below w.heap.size w W8 := bA.trans ((b5.mono (by omega)).trans (b8.mono (by omega)))
  replace X0 := hid X0
  replace X1 := hid X1
  replace X3 := hid X3
  replace X4 := hid X4
  replace X5 := hid X5
  replace T8 := hid T8
  replace TB8 := hid TB8
  replace B8 := hid B8
  have HWA := hid hWA
  have HW8 := hid hW8
  clear bA xA0 xA1 b5 t5 tb5 b8 hW8 hW5 hcp hWA
  gi_wp2_with (first
    | (refine ⟨trivial, ?_⟩; gi_at_call 22; refine (callsIn_wide.2 (counter22 _)).mono ?_; rintro e1 w1 ⟨rfl, rfl⟩; rw [s5])
    | (refine ⟨trivial, ?_⟩; gi_at_call 25; refine (callsIn_wide.2 (lineWords25 _ _ _ (w.heap.size + 1 + 1 + 1) _)).mono ?_; rintro e1 w1 ⟨rfl, hw1⟩; rw [HW8.out] at hw1; rw [hw1, World.size_alloc, s5]; clear hw1)
    | (rw [HWA.out]))
  rename_i K hK
  have HV := hid hv
  have HSS := hid hS
  have hS1 : 0 + S.size < 1099511627776 := by omega
  clear hv hv0 hv1 hS
  have hit := lines_iter (w.heap.size + 1 + 1) (w.heap.size + 1 + 1 + 1) (w.heap.size + 1 + 1 + 1 + 1) (w.heap.size + 1 + 1 + 1 + 1 + 1) 0 (some ⟨w.heap.size + 1 + 1, 0, none⟩) S.size cp (Dim.ints S) W8 (Dim.ints_len S) hS1 X4.out X5.out X3.out T8.out TB8.out
  rw [HITS.out] at hit
  clear hS1
  have tail : ∀ (D : Nat) (W : World) (am : Option Addr) (capm : Nat) (bs : List Bool), W8.heap.size ≤ D → W.heap[D]? = some (.deferred (some [])) → bs = ms → bs.length ≤ vars → W.ownsRow W8.heap.size 4 1 (.slice am bs.length capm) bs.length (bs.map Value.bool) → Boxed W (w.heap.size + 1) 33 (.slice am bs.length capm) → Boxed W w.heap.size 3 (.int .i64 vars) → Below w.heap.size w W → K
      { tmps := #[Value.string S, Value.int IntKind.i64 vars, undef, Value.pointer (some { block := w.heap.size, off := 0 }), Value.slice none 0 0, Value.int IntKind.i64 0, Value.pointer (some { block := w.heap.size + 1, off := 0 }), undef, undef, Value.int IntKind.i64 vars, Value.bool false, Value.bool false, Value.int IntKind.i64 vars, Value.bool false, Value.bool false, Value.string S, Value.slice (some { block := w.heap.size + 1 + 1, off := 0 }) S.size cp, Value.func (Fn.func 36) #[] #[Value.pointer (some { block := w.heap.size + 1 + 1 + 1, off := 0 })], Value.func (Fn.func 40) #[] #[Value.pointer (some { block := w.heap.size + 1 + 1 + 1 + 1, off := 0 }), Value.pointer (some { block := w.heap.size + 1 + 1 + 1 + 1 + 1, off := 0 })], undef, undef, undef, undef, undef, undef, undef, undef, undef, undef, undef, undef, undef, undef, undef, undef, undef, undef, undef, undef, undef, undef, undef, undef, undef, undef, undef], defers := [{ target := .collected D, args := #[] }] } W := by
    intro D W am capm bs hD hdef hbs hle hown hbx hbv hbel
    refine hK _ _ ?_
    clear hK
    have c1 := hbx.cell
    have c2 := hbv.cell
    have HM := hid ((Marks.nil W8.heap.size W).cons hD hdef (by simp))
    have HSZ := hid hbx.lt
    have HBB := hid hbs
    have HB8 := hid hbel
    have HLE := hid hle
    have HOW := hid hown
    have HDE := hid hdef
    clear hdef hbs hown hbel hbx hbv cvt1 HNE HITS HMS X0 X1 X3 X4 X5 T8 TB8 B8 HWA HW8 hle hit
    refine wpIn_wide.2 ?_
    by_cases hlen : bs.length < vars
    · have hl' : (bs.length : Int) < vars := by omega
      go_wp2
      refine leave_marks HM.out fun W2 hb => ⟨_, results_tmp2 rfl _ _ _, .inr ⟨fun h => ?_, rfl⟩, Book.below HB8.out (by omega) hb (by simp) (Nat.le_refl _)⟩
      rw [HBB.out] at hlen
      omega
    · have hl' : ¬ (bs.length : Int) < vars := by omega
      have hev : bs.length = vars := by have := HLE.out; omega
      have HEV := hid hev
      have HOB := hid (own_bools rfl HOW.out)
      have C16 := hid (values16 am bs.length capm bs W rfl (by have := HV.out; omega) HOB.out (fun w' h => HT.out w' (HB8.out.trans (h.mono HB8.out.size))))
      clear hev hlen
      by_cases hS2 : bstr (Dim.valuesB bs) = S
      · rw [show (⟨(Dim.valuesB bs).toArray⟩ : ByteArray) = S from hS2] at C16
        have HS2 := hid hS2
        clear hS2
        go_wp2_with (go_at_call 16; refine C16.out.mono ?_; clear C16; rintro e1 W9 ⟨rfl, hb9⟩
                     have c9 := (hb9.cell (p := ⟨w.heap.size + 1, 0, none⟩) HSZ.out).trans c1
                     replace hb9 := hid hb9)
        refine leave_marks (HM.out.below hb9.out) fun W2 hb => ⟨_, results_tmp2 rfl _ _ _, .inl ⟨?_, ?_, am, capm, ?_, ?_⟩, Book.below (HB8.out.trans (hb9.out.mono HB8.out.size)) (by omega) hb (by simp) (Nat.le_refl _)⟩
        · rw [← HBB.out]; exact HEV.out
        · rw [← HBB.out]; exact HS2.out
        · show Ending.returned (.tuple #[.slice am bs.length capm, .int .i64 0]) = _
          rw [HEV.out]
        · rw [← HBB.out]
          rcases HOB.out.below hb9.out with h | ⟨b, off, e, hl, hc⟩
          · exact .inl h
          · exact .inr ⟨b, off, e, Nat.lt_of_lt_of_le hl hb.size, fun j hj => hb.cell (hc j hj) (by simp)⟩
      · have hne2 := ne_str _ _ hS2
        rw [show (⟨(Dim.valuesB bs).toArray⟩ : ByteArray) = bstr (Dim.valuesB bs) from rfl] at C16
        have HS2 := hid hS2
        clear hS2
        generalize hVS : bstr (Dim.valuesB bs) = VS at hne2 C16 HS2
        have HVS := hid hVS
        clear hVS
        go_wp2_with (go_at_call 16; refine C16.out.mono ?_; clear C16; rintro e1 W9 ⟨rfl, hb9⟩
                     have c9 := (hb9.cell (p := ⟨w.heap.size + 1, 0, none⟩) HSZ.out).trans c1
                     replace hb9 := hid hb9)
        refine leave_marks (HM.out.below hb9.out) fun W2 hb => ⟨_, results_tmp2 rfl _ _ _, .inr ⟨fun h => ?_, rfl⟩, Book.below (HB8.out.trans (hb9.out.mono HB8.out.size)) (by omega) hb (by simp) (Nat.le_refl _)⟩
        exact HS2.out (by rw [← HVS.out, HBB.out]; exact h.2)
  refine range_law rfl (enters_of Tryd.func40 (by kernel_rfl) rfl) hit (fun _ => rfl) ?hV KeepS.trans ?hKb (fun A B h hb => hb.boxed h (by simp))
    (fun k W => ∃ am capm, (Dim.bits its k).length ≤ vars ∧ W.ownsRow W8.heap.size 4 1 (.slice am (Dim.bits its k).length capm) (Dim.bits its k).length ((Dim.bits its k).map Value.bool) ∧ Boxed W (w.heap.size + 1) 33 (.slice am (Dim.bits its k).length capm) ∧ Boxed W w.heap.size 3 (.int .i64 vars) ∧ TB (w.heap.size + 1 + 1) W ∧ Below w.heap.size w W ∧ W8.heap.size ≤ W.heap.size)
    (fun cd k W => cd = .exit 0 ∧ ∃ am capm, ms.length ≤ vars ∧ W.ownsRow W8.heap.size 4 1 (.slice am ms.length capm) ms.length (ms.map Value.bool) ∧ Boxed W (w.heap.size + 1) 33 (.slice am ms.length capm) ∧ Boxed W w.heap.size 3 (.int .i64 vars) ∧ TB (w.heap.size + 1 + 1) W ∧ Below w.heap.size w W)
    ?hI ?hIx (fun k h => by cases h; omega) ⟨none, 0, Nat.zero_le _, World.ownsRow_nil _ _ _ _, X1.out, X0.out, TB8.out, B8.out, Nat.le_refl _⟩
    (fun x => { tmps := #[Value.string S, Value.int IntKind.i64 vars, undef, Value.pointer (some { block := w.heap.size, off := 0 }), Value.slice none 0 0, Value.int IntKind.i64 0, Value.pointer (some { block := w.heap.size + 1, off := 0 }), undef, x.2, Value.int IntKind.i64 vars, Value.bool false, Value.bool false, Value.int IntKind.i64 vars, Value.bool false, Value.bool false, Value.string S, Value.slice (some { block := w.heap.size + 1 + 1, off := 0 }) S.size cp, Value.func (Fn.func 36) #[] #[Value.pointer (some { block := w.heap.size + 1 + 1 + 1, off := 0 })], Value.func (Fn.func 40) #[] #[Value.pointer (some { block := w.heap.size + 1 + 1 + 1 + 1, off := 0 }), Value.pointer (some { block := w.heap.size + 1 + 1 + 1 + 1 + 1, off := 0 })], x.1, x.2, undef, undef, undef, undef, undef, undef, undef, undef, undef, undef, undef, undef, undef, undef, undef, undef, undef, undef, undef, undef, undef, undef, undef, undef, undef], defers := [] }) ?assign ?body ?done ?stop
  case hV =>
    rintro k x A B ⟨h1, h2⟩ hb
    exact ⟨h1, h2.book hb (by simp)⟩
  case hKb =>
    rintro W l o o' rfl h ho
    exact KeepS.put W _ o o' h ho
  case hI =>
    rintro k A B ⟨am, capm, h1, h2, g1, g2, g3, g4, g5⟩ hb
    exact ⟨am, capm, h1, own_book h2 hb (fun k hk => by cases hk; omega), hb.boxed g1 (fun e => by injection e with e; omega), hb.boxed g2 (fun e => by injection e with e; omega), g3.book hb (fun e => by injection e with e; omega), Book.below g4 (by omega) hb (fun k hk => by cases hk; omega) (Nat.le_refl _), Nat.le_trans g5 hb.size⟩
  case hIx =>
    rintro cd k A B ⟨h0, am, capm, h1, h2, g1, g2, g3, g4⟩ hb
    exact ⟨h0, am, capm, h1, own_book h2 hb (by simp), hb.boxed g1 (by simp), hb.boxed g2 (by simp), g3.book hb (by simp), Book.below g4 (by omega) hb (by simp) (Nat.le_refl _)⟩
  case assign =>
    clear tail hit
    intro l m x W K hK
    gi_wp2_with (rw [Oper.semAt_some _ _ _ (fun c => (by intro h; cases h))]; go_simp)
    exact hK
  case body =>
    clear tail hit
    rintro l m k ⟨x1, x2⟩ W hl hk ⟨am, capm, hle, hown, g1, g2, g3, g4, g5⟩ ⟨hx1, pw, cw, hx2, htx⟩
    dsimp only at hx1 hx2
    subst hx1 hx2
    have hne : (its.getD k (0, [])).2 ≠ [] := HNE.out _ (by simp [List.getD, List.getElem?_eq_getElem hk])
    have hon := Dim.bits_on its k hk
    have hst := fun h => Dim.bits_stop its k vars h
    generalize (its.getD k (0, [])).1 = at0
    generalize (its.getD k (0, [])).2 = wd at hne hon htx
    generalize Dim.bits its k = bs at hle hown g1 hon hst
    rw [HMS.out] at hst
    have HON := hid hon
    have HST := hid hst
    have c1 := g1.cell
    have c2 := g2.cell
    have f1 := g1.frozen
    clear hon hst cvt1 HT HNE HITS HMS X0 X1 X3 X4 X5 T8 TB8 B8 HWA HW8 hK
    by_cases hfull : bs.length = vars
    · have hf' : (bs.length : Int) = vars := by omega
      have GG := hid (And.intro hown (And.intro g1 (And.intro g2 (And.intro g3 g4))))
      clear hown g1 g2 g3 g4 htx
      gi_wp2_with (rw [Oper.semAt_some _ _ _ (fun c => (by intro h; cases h))]; go_simp)
      obtain ⟨hown, g1, g2, g3, g4⟩ := GG.out
      have hm := HST.out hfull
      refine ⟨KeepsFrom.refl _ _, rfl, am, capm, ?_, ?_, ?_, g2, g3, g4⟩
      · rw [hm]; exact hle
      · rw [hm]; exact hown
      · rw [hm]; exact g1
    · have hf' : ¬ (bs.length : Int) = vars := by omega
      have hlt : bs.length < vars := by omega
      have cv : (convert 22 9 (.slice pw wd.length cw)).run Tryd.prog W = .ok (.string (strOfNums wd)) W := htx.bytesIn.convert rfl cw 22 5 9 Tryd.underlying22 Tryd.underlying5 Tryd.underlying9
      have hsv : ((strOfNums wd).toList == [118]) = (wd == [118]) := str_eq htx.1 [118] (by intro x hx; simp at hx; omega)
      generalize strOfNums wd = SW at cv hsv
      by_cases hv : wd = [118]
      · rw [show (wd == [118]) = true by rw [hv]; rfl] at hsv
        have hB := HON.out
        rw [if_pos hv] at hB
        have HBB := hid hB
        have GG := hid (And.intro hown (And.intro g1 (And.intro g2 (And.intro g3 g4))))
        clear hown g1 g2 g3 g4 htx hB hv hlt HON HST hfull
        gi_wp2_with (rw [Oper.semAt_some _ _ _ (fun c => (by intro h; cases h))]; go_simp)
        obtain ⟨hown, g1, g2, g3, g4⟩ := GG.out
        refine ⟨KeepsFrom.refl _ _, KeepS.refl _ _, am, capm, ?_, ?_, ?_, g2, g3, g4, g5⟩
        · rw [HBB.out]; exact hle
        · rw [HBB.out]; exact hown
        · rw [HBB.out]; exact g1
      · rw [show (wd == [118]) = false by rw [beq_eq_false_iff_ne]; exact hv] at hsv
        have hB := HON.out
        rw [if_neg hv] at hB
        have HBB := hid hB
        have hwl : 0 < wd.length := List.length_pos_iff.2 hne
        obtain ⟨o, rfl, hc0, hx0, hx1⟩ := htx.at (i := 0) hwl
        rw [Nat.add_zero] at hc0
        have hsg : Dim.sg wd = (wd.getD 0 0 != 45) := rfl
        generalize wd.getD 0 0 = ch at hc0 hx0 hx1 hsg
        have hc0' : W.drew.cell? ⟨w.heap.size + 1 + 1, o, none⟩ = some (.int .u8 ch) := hc0
        have c1' : W.drew.cell? ⟨w.heap.size + 1, 0, none⟩ = some (.slice am bs.length capm) := c1
        by_cases hch : ch = 45
        · obtain ⟨gb, capb, w', hr, q1, q2, q3, q4, q5, q6, q7, q8, q9, q10, q11⟩ := sign_step (l := W8.heap.size + 1) (b := false) hown g1 g5 (by have := HV.out; omega) (by omega)
          have c1'' : (W.alloc (.cells #[.bool false] 4)).drew.cell? ⟨w.heap.size + 1, 0, none⟩ = some (.slice am bs.length capm) := (Boxed.alloc g1 (.cells #[.bool false] 4)).cell
          subst hch
          have HSG := hid (show Dim.sg wd = false from hsg)
          clear hsg
          have hwl' : (0 : Int) < wd.length := by omega
          have FIN := hid (show KeepsFrom W8.heap.size W (w'.setCell ⟨w.heap.size + 1, 0, none⟩ (.slice (some ⟨gb, 0, none⟩) (bs.length + 1) capb)) ∧ KeepS (W8.heap.size + 1) W (w'.setCell ⟨w.heap.size + 1, 0, none⟩ (.slice (some ⟨gb, 0, none⟩) (bs.length + 1) capb)) ∧ ∃ am capm, (Dim.bits its (k + 1)).length ≤ vars ∧ (w'.setCell ⟨w.heap.size + 1, 0, none⟩ (.slice (some ⟨gb, 0, none⟩) (bs.length + 1) capb)).ownsRow W8.heap.size 4 1 (.slice am (Dim.bits its (k + 1)).length capm) (Dim.bits its (k + 1)).length ((Dim.bits its (k + 1)).map Value.bool) ∧ Boxed (w'.setCell ⟨w.heap.size + 1, 0, none⟩ (.slice (some ⟨gb, 0, none⟩) (bs.length + 1) capb)) (w.heap.size + 1) 33 (.slice am (Dim.bits its (k + 1)).length capm) ∧ Boxed (w'.setCell ⟨w.heap.size + 1, 0, none⟩ (.slice (some ⟨gb, 0, none⟩) (bs.length + 1) capb)) w.heap.size 3 (.int .i64 vars) ∧ TB (w.heap.size + 1 + 1) (w'.setCell ⟨w.heap.size + 1, 0, none⟩ (.slice (some ⟨gb, 0, none⟩) (bs.length + 1) capb)) ∧ Below w.heap.size w (w'.setCell ⟨w.heap.size + 1, 0, none⟩ (.slice (some ⟨gb, 0, none⟩) (bs.length + 1) capb)) ∧ W8.heap.size ≤ (w'.setCell ⟨w.heap.size + 1, 0, none⟩ (.slice (some ⟨gb, 0, none⟩) (bs.length + 1) capb)).heap.size by
            have e1 : (bs ++ [Dim.sg wd]).length = bs.length + 1 := by simp
            have e2 : (bs ++ [Dim.sg wd]).map Value.bool = bs.map Value.bool ++ [Value.bool false] := by simp [HSG.out]
            rw [hB, e1, e2]
            refine ⟨q5.from _, q6, some ⟨gb, 0, none⟩, capb, hlt, q3, q4, (q7 _ (by omega) (by omega)).trans g2, g3.same (q7 _ (by omega) (by omega)), g4.trans ⟨q8.symm, q9.symm, q10.symm, ?_, fun k hk => q7 k (by omega) (by omega)⟩, Nat.le_trans g5 q5.size⟩
            exact q5.size)
          clear hown g1 g2 g3 g4 htx hB hv hlt HON HST hfull q3 q4 q5 q6 q7 q8 q9 q10 q11
          gi_wp2_with (rw [Oper.semAt_some _ _ _ (fun c => (by intro h; cases h))]; go_simp)
          gi_region_with (first
            | (refine uponIn_append (o := ⟨some 34, _, _, _, _, _⟩) (v := .slice (some ⟨gb, 0, none⟩) (bs.length + 1) capb) (w' := w') (Operand.tmp 28) (Operand.tmp 33) 33 rfl ?_ ?_; exact hr; go_simp)
            | (rw [Oper.semAt_some _ _ _ (fun c => (by intro h; cases h))]; go_simp))
          all_goals
            gi_wp2
            exact FIN.out
        · obtain ⟨gb, capb, w', hr, q1, q2, q3, q4, q5, q6, q7, q8, q9, q10, q11⟩ := sign_step (l := W8.heap.size + 1) (b := true) hown g1 g5 (by have := HV.out; omega) (by omega)
          have c1'' : (W.alloc (.cells #[.bool true] 4)).drew.cell? ⟨w.heap.size + 1, 0, none⟩ = some (.slice am bs.length capm) := (Boxed.alloc g1 (.cells #[.bool true] 4)).cell
          have HSG := hid (show Dim.sg wd = true by rw [hsg]; simpa using hch)
          have hch1 : (ch == 45) = false := by rw [beq_eq_false_iff_ne]; exact hch
          have hch2 : (ch != 45) = true := by rw [bne_iff_ne]; exact hch
          clear hsg
          have hwl' : (0 : Int) < wd.length := by omega
          have FIN := hid (show KeepsFrom W8.heap.size W (w'.setCell ⟨w.heap.size + 1, 0, none⟩ (.slice (some ⟨gb, 0, none⟩) (bs.length + 1) capb)) ∧ KeepS (W8.heap.size + 1) W (w'.setCell ⟨w.heap.size + 1, 0, none⟩ (.slice (some ⟨gb, 0, none⟩) (bs.length + 1) capb)) ∧ ∃ am capm, (Dim.bits its (k + 1)).length ≤ vars ∧ (w'.setCell ⟨w.heap.size + 1, 0, none⟩ (.slice (some ⟨gb, 0, none⟩) (bs.length + 1) capb)).ownsRow W8.heap.size 4 1 (.slice am (Dim.bits its (k + 1)).length capm) (Dim.bits its (k + 1)).length ((Dim.bits its (k + 1)).map Value.bool) ∧ Boxed (w'.setCell ⟨w.heap.size + 1, 0, none⟩ (.slice (some ⟨gb, 0, none⟩) (bs.length + 1) capb)) (w.heap.size + 1) 33 (.slice am (Dim.bits its (k + 1)).length capm) ∧ Boxed (w'.setCell ⟨w.heap.size + 1, 0, none⟩ (.slice (some ⟨gb, 0, none⟩) (bs.length + 1) capb)) w.heap.size 3 (.int .i64 vars) ∧ TB (w.heap.size + 1 + 1) (w'.setCell ⟨w.heap.size + 1, 0, none⟩ (.slice (some ⟨gb, 0, none⟩) (bs.length + 1) capb)) ∧ Below w.heap.size w (w'.setCell ⟨w.heap.size + 1, 0, none⟩ (.slice (some ⟨gb, 0, none⟩) (bs.length + 1) capb)) ∧ W8.heap.size ≤ (w'.setCell ⟨w.heap.size + 1, 0, none⟩ (.slice (some ⟨gb, 0, none⟩) (bs.length + 1) capb)).heap.size by
            have e1 : (bs ++ [Dim.sg wd]).length = bs.length + 1 := by simp
            have e2 : (bs ++ [Dim.sg wd]).map Value.bool = bs.map Value.bool ++ [Value.bool true] := by simp [HSG.out]
            rw [hB, e1, e2]
            refine ⟨q5.from _, q6, some ⟨gb, 0, none⟩, capb, hlt, q3, q4, (q7 _ (by omega) (by omega)).trans g2, g3.same (q7 _ (by omega) (by omega)), g4.trans ⟨q8.symm, q9.symm, q10.symm, ?_, fun k hk => q7 k (by omega) (by omega)⟩, Nat.le_trans g5 q5.size⟩
            exact q5.size)
          clear hown g1 g2 g3 g4 htx hB hv hlt HON HST hfull q3 q4 q5 q6 q7 q8 q9 q10 q11
          gi_wp2_with (rw [Oper.semAt_some _ _ _ (fun c => (by intro h; cases h))]; go_simp)
          gi_region_with (first
            | (refine uponIn_append (o := ⟨some 34, _, _, _, _, _⟩) (v := .slice (some ⟨gb, 0, none⟩) (bs.length + 1) capb) (w' := w') (Operand.tmp 28) (Operand.tmp 33) 33 rfl ?_ ?_; exact hr; go_simp)
            | (rw [Oper.semAt_some _ _ _ (fun c => (by intro h; cases h))]; go_simp))
          all_goals
            gi_wp2
            exact FIN.out
  case done => 
    rintro D W hD hE ⟨am, capm, h1, h2, g1, g2, g3, g4, g5⟩ hdef
    exact tail D W am capm _ hD hdef ((Dim.bits_end its vars h1).symm.trans HMS.out) h1 h2 g1 g2 g4
  case stop =>
    rintro D cd k W hD hk ⟨rfl, am, capm, h1, h2, g1, g2, g3, g4⟩ hdef
    gi_wp2
    exact tail D W am capm _ hD hdef rfl h1 h2 g1 g2 g4
end Go.Proofs.YtlhpnkgdnmnclaaDoor
