/- A number written behind a full row of bytes that bears the mark of a constant text. -/
import Derived.Test.YtlhpnkgdnmnclaaDoorSame
import Derived.Lib.AppendStr
import Derived.ArgAppend
import Derived.Lib.AppendIntMem
namespace Go.Proofs.YtlhpnkgdnmnclaaDoor
open Go.RowKit
set_option linter.unusedVariables false

theorem info5m : (Tryd.prog.info? 5).map (fun i => (i.zero, i.size, i.bytes)) = some (some (.int .u8 0), 1, 1) := by kernel_rfl

/-- A string's bytes behind a full slice: a new row. -/
theorem grows_string (w : World) {ops : Array Oper} {rest : List Oper} {o : Oper} {a : Act} {Q : Exit → Act → World → Prop} (hgd : o.guard = none) (sl x : Operand)
    (ho : o.op = .call { callee := .builtin .append, args := #[sl, x], argTypes := #[22, 9] }) (b : Addr) (n : Nat) (olds : List Value) (hs : a.eval sl = .slice (some b) n n) (hlo : olds.length = n)
    (holds : ∀ j v, olds[j]? = some v → w.cell? (b.add j) = some v) (s : ByteArray) (hx : a.eval x = .string s) (hp : 0 < s.size) (hb : n + s.size ≤ 1099511627776)
    (hK : ∀ v' w', w'.ownsRow w.heap.size 5 1 v' (n + s.size) (olds ++ Lib.strCells s) → w.grownBy w' none → wpList Tryd.prog ops Q rest (a.put o.dst v') w') : wpList Tryd.prog ops Q (o :: rest) a w := by
  obtain ⟨i, hi, hz0, hz1, hz2⟩ := info_parts info5m
  have hlen : (olds ++ Lib.strCells s).length = (n + s.size) * 1 := by rw [List.length_append, hlo, Lib.strCells_length, Nat.mul_one]
  have hrun := Lib.run_append_grow_string (P := Tryd.prog) w 22 9 o.type 5 i (.int .u8 0) Tryd.underlying22 Tryd.underlying9 hi hz0 b n n olds (by rw [hz1]; omega) holds s (by omega) (by omega) (by rw [hz2]; exact growslice_fits (by omega) (by omega))
  have hge := grownCap_ge w (n + s.size) n 5
  have hcm : grownCap w (n + s.size) n 5 ≤ maxLen := grownCap_le_maxLen w (n + s.size) n 5 (by simp [maxLen]; omega)
  refine wpList_plain hgd fun K hK' => ?_
  unfold Oper.wp
  simp only [execOp, ho, resolve, invoke, builtin, Sem.run_bind, Sem.run_pure, Result.andThen_ok, List.map_toArray, List.map_cons, List.map_nil, hs, hx, hrun]
  refine hK' _ _ (hK _ _ ⟨hlen, .inr ⟨w.heap.size, _, _, rfl, Nat.le_refl _, heap_alloc_new w.drew _, hge, hcm, ?_, ?_⟩⟩ ⟨rfl, rfl, rfl, by simp, fun k hk _ => heap_alloc_old w.drew _ k hk⟩)
  · have h1 : (Value.int IntKind.u8 0).cells.size = 1 := rfl
    simp only [Array.size_append, List.size_toArray, size_zeroCells, h1, hlo, Lib.strCells_length]
    omega
  · simp only [Array.toList_append, List.append_assoc]
    rw [← List.append_assoc, ← hlen]
    exact List.take_left

set_option maxRecDepth 100000 in
set_option maxHeartbeats 4000000 in
theorem appendUint50_small (g n u : Nat) (hu : u < 100) (xs : List UInt8) (w : World) (hn : xs.length = n) (hnb : n ≤ 1048576) (fr : Nat × Nat) (hg : w.heap[g]? = some (.cells (Lib.byteCells xs).toArray 5 fr)) :
    Calls Tryd.prog 50 #[.slice (some ⟨g, 0, none⟩) n n, .int .u64 u, .int .i64 10] w fun e w' => ∃ v', e = .returned v' ∧ w'.ownsRow w.heap.size 5 1 v' (n + (Lib.decDigits u).length) (Lib.byteCells (xs ++ Lib.decDigits u)) ∧ Below w.heap.size w w' := by
  have C54 := hid (Any.internal_strconv_small { Tryd.aiL with } u hu w : Calls Tryd.prog 54 #[.int .i64 u] w fun e w' => e = .returned (.string ⟨(Lib.decDigits u).toArray⟩) ∧ w' = w)
  have hcells := World.news_of_block hg
  have hl1 : 0 < (Lib.decDigits u).length ∧ (Lib.decDigits u).length ≤ 20 := by
    rw [Lib.decDigits_length]
    by_cases h10 : u < 10
    · rw [Lib.nDigits_small h10]; omega
    · rw [Lib.nDigits_big h10, Lib.nDigits_small (show u / 10 < 10 by omega)]; omega
  have hsz : (⟨(Lib.decDigits u).toArray⟩ : ByteArray).size = (Lib.decDigits u).length := by simp [ByteArray.size]
  have hlo : (Lib.byteCells xs).length = n := by rw [Lib.byteCells_length, hn]
  have hu' : (u : Int) < 100 := by omega
  have HC := hid hcells
  clear hcells
  go_enter Tryd.func50, Tryd.ntmps50
  go_wp2_with (first
    | (go_at_call 54; refine C54.out.mono ?_; rintro e w' ⟨rfl, hw'⟩; obtain rfl := hw'.symm)
    | (at_builtin; refine grows_string _ rfl _ _ rfl ⟨g, 0, none⟩ n (Lib.byteCells xs) rfl hlo (by simpa using HC.out) ⟨(Lib.decDigits u).toArray⟩ rfl (by rw [hsz]; omega) (by rw [hsz]; omega) ?_))
  intro v' w1 hown hgrow
  go_wp2
  go_ret
  refine ⟨v', rfl, ?_, (Below.refl _ w).grown hgrow (Nat.le_refl _) (by simp)⟩
  rw [Lib.byteCells_append]
  exact hown

set_option maxRecDepth 100000 in
set_option maxHeartbeats 8000000 in
theorem appendUint50_big (g n u : Nat) (hu : 100 ≤ u) (hu64 : u < 18446744073709551616) (xs : List UInt8) (w : World) (hn : xs.length = n) (hnb : n ≤ 1048576) (fr : Nat × Nat) (hg : w.heap[g]? = some (.cells (Lib.byteCells xs).toArray 5 fr))
    (htab : Lib.TabIs Tryd.prog w "internal/strconv.uint64pow10" .u64 Lib.pow10Tab) :
    Calls Tryd.prog 50 #[.slice (some ⟨g, 0, none⟩) n n, .int .u64 u, .int .i64 10] w fun e w' => ∃ v', e = .returned v' ∧ w'.ownsRow w.heap.size 5 1 v' (n + (Lib.decDigits u).length) (Lib.byteCells (xs ++ Lib.decDigits u)) ∧ Below w.heap.size w w' := by
  have hu1 : 1 ≤ u := by omega
  have hnd : Lib.nDigits u ≤ 20 := by have := Lib.numDigits_eq u hu1 hu64; split at this <;> omega
  obtain ⟨i0, hi, hz0, hz1, hz2⟩ := info_parts info5m
  have hgl : g < w.heap.size := (Array.getElem?_eq_some_iff.1 hg).1
  have hz := Lib.holds_zero0 w 104 (Lib.nDigits u) (by omega)
  have C55 := hid (Any.internal_strconv_numDigits { Tryd.aiL with } u hu1 hu64 _ (Lib.tabIs_alloc htab (.cells Lib.zeros24 104)))
  have C56 := hid (Any.internal_strconv_formatBase10 { Tryd.aiL with } w.heap.size 0 24 u (Array.replicate (Lib.nDigits u) 0) (w.alloc (.cells Lib.zeros24 104)) hz (by rw [Array.size_replicate]; exact Lib.lt_pow_nDigits u) hu64 (by rw [Array.size_replicate]; omega))
  have hfmt : Calls Tryd.prog 56 #[.slice (some ⟨w.heap.size, 0, none⟩) (Lib.nDigits u) 24, .int .u64 u] (w.alloc (.cells Lib.zeros24 104)) fun e w' => e = .returned (.tuple #[]) ∧ Below w.heap.size w w' ∧
      ∀ j v, (Lib.byteCells (Lib.decDigits u))[j]? = some v → w'.cell? ((⟨w.heap.size, 0, none⟩ : Addr).add j) = some v := by
    have C := C56.out
    rw [Array.size_replicate] at C
    refine C.mono ?_
    rintro e w' ⟨rfl, k, v', dk, rfl, hF⟩
    refine ⟨rfl, ?_, fun j v hj => ?_⟩
    · obtain ⟨os, eo⟩ := Lib.fin_at w (.cells Lib.zeros24 104) dk k 0
      rw [eo]
      exact Lib.below_grow _ w (Nat.le_refl _) k os
    · have hjl : j < (Lib.decDigits u).length := by
        have h5 := (List.getElem?_eq_some_iff.1 hj).1
        rwa [Lib.byteCells_length] at h5
      have e5 : (Lib.byteCells (Lib.decDigits u))[j]? = some (Value.int .u8 ((Lib.decDigits u)[j].toNat : Int)) := by simp [Lib.byteCells, hjl]
      rw [e5] at hj
      cases hj
      rw [Lib.row_is_numeral hF j hjl, Lib.add_plain, World.cell?_drewN]
      exact Go.Sort.cell?_putRow (fun (b : UInt8) => Value.int .u8 (b.toNat : Int)) _ w.heap.size 0 _ dk hz (by rw [hF.size, Array.size_replicate]) j (by rw [hF.size]; rw [Lib.decDigits_length] at hjl; exact hjl)
  have HF := hid hfmt
  have hcells := World.news_of_block hg
  have HC := hid hcells
  have HG := hid hg
  have hlo : (Lib.byteCells xs).length = n := by rw [Lib.byteCells_length, hn]
  have hu' : ¬ (u : Int) < 100 := by omega
  have hal : Tryd.prog.arrayLen 104 = 24 := by kernel_rfl
  have hsl : ∀ W, (Instr.sliceAt 104 (.pointer (some ⟨w.heap.size, 0, none⟩)) none (some (.int .i64 (Lib.nDigits u : Int))) none).run Tryd.prog W = .ok (.slice (some ⟨w.heap.size, 0, none⟩) (Lib.nDigits u) 24) W := fun W => by
    rw [run_sliceAt_array_h W 104 ⟨w.heap.size, 0, none⟩ (by kernel_rfl) .i64 (Lib.nDigits u : Int) (by omega) (by rw [hal]; omega), hal]
    go_simp
  have hdl : (Lib.decDigits u).length = Lib.nDigits u := Lib.decDigits_length u
  clear hfmt hcells hg hz C56 hal
  go_enter Tryd.func50, Tryd.ntmps50
  go_wp2_with (first
    | (go_at_call 55; refine C55.out.mono ?_; clear C55; rintro e w' ⟨rfl, hw'⟩; obtain rfl := hw'.symm)
    | (go_at_call 56; refine HF.out.mono ?_; clear HF; rintro e W2 ⟨rfl, hb2, hc2⟩; replace hb2 := hid hb2; replace hc2 := hid hc2)
    | (at_builtin; refine wpList_append_grows _ rfl _ _ 22 rfl 5 i0 (.int .u8 0) 1 1 Tryd.underlying22 hi hz0 hz1 hz2 rfl (by decide) (some ⟨g, 0, none⟩) n n (Lib.byteCells xs) rfl (fun h => (by cases h)) (by rw [hlo, Nat.mul_one]) ?c1 ⟨w.heap.size, 0, none⟩ (Lib.nDigits u) 24 (Lib.byteCells (Lib.decDigits u)) rfl (by rw [Lib.byteCells_length, hdl, Nat.mul_one]) hc2.out ?c2 ?c3 ?c4 ?c5 ?_))
  case c1 =>
    rintro b hb j v hj
    cases hb
    have hadd : (⟨g, 0, none⟩ : Addr).add j = ⟨g, j, none⟩ := by rw [Go.WideShapes.add_plain]; simp
    rw [hadd, hb2.out.cell (p := ⟨g, j, none⟩) hgl, ← hadd]
    exact HC.out j v hj
  case c2 => intro v hv; simp only [Lib.byteCells, List.mem_map] at hv; obtain ⟨b, _, rfl⟩ := hv; rfl
  case c3 => have : 0 < Lib.nDigits u := Lib.nDigits_pos u; omega
  case c4 => simp [maxLen]; omega
  case c5 => omega
  intro v' w1 hown hgrow
  go_wp2
  go_ret
  have hsz := hb2.out.size
  refine ⟨v', rfl, ?_, hb2.out.trans ((Below.refl _ W2).grown hgrow hsz (by simp))⟩
  rw [Lib.byteCells_append, hdl]
  exact ⟨hown.1, hown.2.imp id (fun ⟨g', cap', cur, h1, h2, h3⟩ => ⟨g', cap', cur, h1, Nat.le_trans hsz h2, h3⟩)⟩

/-- strconv.AppendInt behind such a row. -/
theorem appendUint50 (g n u : Nat) (hu64 : u < 18446744073709551616) (xs : List UInt8) (w : World) (hn : xs.length = n) (hnb : n ≤ 1048576) (fr : Nat × Nat) (hg : w.heap[g]? = some (.cells (Lib.byteCells xs).toArray 5 fr))
    (htab : Lib.TabIs Tryd.prog w "internal/strconv.uint64pow10" .u64 Lib.pow10Tab) :
    Calls Tryd.prog 50 #[.slice (some ⟨g, 0, none⟩) n n, .int .u64 u, .int .i64 10] w fun e w' => ∃ v', e = .returned v' ∧ w'.ownsRow w.heap.size 5 1 v' (n + (Lib.decDigits u).length) (Lib.byteCells (xs ++ Lib.decDigits u)) ∧ Below w.heap.size w w' := by
  by_cases h : u < 100
  · exact appendUint50_small g n u h xs w hn hnb fr hg
  · exact appendUint50_big g n u (by omega) hu64 xs w hn hnb fr hg htab

set_option maxRecDepth 100000 in
set_option maxHeartbeats 4000000 in
theorem appendInt31_mark (g n u : Nat) (hu : u ≤ 1048576) (xs : List UInt8) (w : World) (hn : xs.length = n) (hnb : n ≤ 1048576) (fr : Nat × Nat) (hg : w.heap[g]? = some (.cells (Lib.byteCells xs).toArray 5 fr))
    (htab : Lib.TabIs Tryd.prog w "internal/strconv.uint64pow10" .u64 Lib.pow10Tab) :
    Calls Tryd.prog 31 #[.slice (some ⟨g, 0, none⟩) n n, .int .i64 u, .int .i64 10] w fun e w' => ∃ v', e = .returned v' ∧ w'.ownsRow w.heap.size 5 1 v' (n + (Lib.itoa u).length) (Lib.byteCells (xs ++ Lib.itoa u)) ∧ Below w.heap.size w w' := by
  have e0 : Lib.itoa (u : Int) = Lib.decDigits u := by unfold Lib.itoa; rw [if_neg (by omega)]; simp
  rw [e0]
  have C := hid (appendUint50 g n u (by omega) xs w hn hnb fr hg htab)
  have hu0 : ¬ (u : Int) < 0 := by omega
  clear hg htab
  have C43 : Calls Tryd.prog 43 #[.slice (some ⟨g, 0, none⟩) n n, .int .i64 u, .int .i64 10] w fun e w' => ∃ v', e = .returned v' ∧ w'.ownsRow w.heap.size 5 1 v' (n + (Lib.decDigits u).length) (Lib.byteCells (xs ++ Lib.decDigits u)) ∧ Below w.heap.size w w' := by
    have hub : (u : Int) ≤ 1048576 := by omega
    go_enter Tryd.func43, Tryd.ntmps43
    go_wp2_with (go_at_call 50; refine C.out.mono ?_; rintro e w' ⟨v', rfl, h2, h3⟩; replace h2 := hid h2; replace h3 := hid h3)
    go_ret
    exact ⟨v', rfl, h2.out, h3.out⟩
  have H43 := hid C43
  clear C43 C
  go_enter Tryd.func31, Tryd.ntmps31
  go_wp2_with (go_at_call 43; refine H43.out.mono ?_; rintro e w' ⟨v', rfl, h2, h3⟩; replace h2 := hid h2; replace h3 := hid h3)
  go_ret
  exact ⟨v', rfl, h2.out, h3.out⟩

end Go.Proofs.YtlhpnkgdnmnclaaDoor
