/- A number written into room that is there. -/
import Derived.Test.YtmgeoeajnpnadaaDoorLShelf
import Derived.Test.YtmgeoeajnpnadaaDoorBase
import Derived.Lib.AppendStr
import Derived.ArgAppend
import Derived.Lib.AppendIntMem
import Derived.Lib.ItoaLen
namespace Go.Proofs.YtmgeoeajnpnadaaDoor
open Go.RowKit
set_option linter.unusedVariables false

/-- Nothing turned below n but block p. -/
structure Ex (p n : Nat) (w W : World) : Prop where
  os : W.os = w.os
  tape : W.tape = w.tape
  output : W.output = w.output
  size : w.heap.size ≤ W.heap.size
  block : ∀ i, i < n → i ≠ p → W.heap[i]? = w.heap[i]?
theorem Ex.refl (p n : Nat) (w : World) : Ex p n w w := ⟨rfl, rfl, rfl, Nat.le_refl _, fun _ _ _ => rfl⟩
theorem Ex.trans {p n : Nat} {a b c : World} (h : Ex p n a b) (k : Ex p n b c) : Ex p n a c := ⟨k.os.trans h.os, k.tape.trans h.tape, k.output.trans h.output, Nat.le_trans h.size k.size, fun i hi hc => (k.block i hi hc).trans (h.block i hi hc)⟩
theorem Ex.of_below {p n : Nat} {a b : World} (h : Below n a b) : Ex p n a b := ⟨h.os, h.tape, h.output, h.size, fun i hi _ => h.block i hi⟩
theorem Ex.below {p n : Nat} {a b : World} (h : Ex p n a b) (hp : n ≤ p) : Below n a b := ⟨h.os, h.tape, h.output, h.size, fun i hi => h.block i hi (by omega)⟩
theorem Ex.mono {p n n' : Nat} {a b : World} (h : Ex p n a b) (hn : n' ≤ n) : Ex p n' a b := ⟨h.os, h.tape, h.output, h.size, fun i hi hc => h.block i (by omega) hc⟩
theorem Ex.setRow (p n : Nat) (a : World) (cs : Array Value) : Ex p n a (a.setRow p cs) := ⟨rfl, rfl, rfl, by simp [World.setRow], fun i hi hc => setRow_other a p i cs hc⟩
theorem Ex.set (p n k : Nat) (a : World) (u : Value) : Ex p n a (a.setCell ⟨p, k, none⟩ u) := ⟨rfl, rfl, rfl, by simp [World.setCell], fun i hi hc => heap_other _ _ hc⟩

/-- What a row is behind values written at i. -/
def put (cur : Array Value) (i : Nat) (xs : List Value) : Array Value := (cur.toList.take i ++ xs ++ cur.toList.drop (i + xs.length)).toArray
theorem put_size (cur : Array Value) (i : Nat) (xs : List Value) (h : i + xs.length ≤ cur.size) : (put cur i xs).size = cur.size := by
  simp [put]; omega
theorem put_put (cur : Array Value) (i : Nat) (xs ys : List Value) (h : i + xs.length ≤ cur.size) : put (put cur i xs) (i + xs.length) ys = put cur i (xs ++ ys) := by
  unfold put
  have hl : (cur.toList.take i ++ xs).length = i + xs.length := by simp; omega
  congr 1
  rw [List.toList_toArray, List.take_append_of_le_length (by omega), List.take_of_length_le (by omega), List.drop_append, List.drop_eq_nil_of_le (by omega), List.nil_append, hl, List.drop_drop, List.append_assoc, List.length_append]
  simp only [List.append_assoc]
  congr 3
  rw [show i + xs.length + ys.length - (i + xs.length) = ys.length by omega]
  congr 1
  omega
theorem put_in (cur : Array Value) (i j : Nat) (xs : List Value) (h : i ≤ cur.size) (hj : j < xs.length) : (put cur i xs)[i + j]? = xs[j]? := by
  unfold put
  rw [List.getElem?_toArray, List.append_assoc, List.getElem?_append_right (by simp; omega), List.getElem?_append_left (by simp; omega)]
  congr 1
  simp
  omega
theorem put_out (cur : Array Value) (i j : Nat) (xs : List Value) (h : i ≤ cur.size) (hj : j < i) : (put cur i xs)[j]? = cur[j]? := by
  unfold put
  rw [List.getElem?_toArray, List.append_assoc, List.getElem?_append_left (by simp; omega), List.getElem?_take_of_lt hj, Array.getElem?_toList]

section
variable {P : Program} (w : World)
theorem run_append_in (t ty e : TypeId) (i : TypeInfo) (ht : P.underlying t = some (.slice e)) (hi : P.info? e = some i) (hs1 : i.size = 1)
    (g off sLen sCap : Nat) (cur : Array Value) (T : TypeId) (hg : w.heap[g]? = some (.cells cur T (0, 0)))
    (a : Addr) (m c : Nat) (news : List Value) (hl : news.length = m) (hnews : ∀ j u, news[j]? = some u → w.cell? (a.add j) = some u) (h1 : ∀ u ∈ news, u.oneCell' = true)
    (hroom : sLen + m ≤ sCap) (hfit : off + sLen + m ≤ cur.size) :
    (Builtin.append_ #[t, t] ty #[.slice (some ⟨g, off, none⟩) sLen sCap, .slice (some a) m c]).run P w = .ok (.slice (some ⟨g, off, none⟩) (sLen + m) sCap) (w.setRow g (put cur (off + sLen) news)) := by
  have hf := run_firstCells_some (P := P) w i.size m a m c news (by rw [hs1, hl, Nat.mul_one]) hnews
  have hst := run_storeCells_at P g (off + sLen) T news 0 cur w hg (by simpa [hl] using hfit) h1
  simp only [Nat.add_zero] at hst
  rw [hs1] at hf
  simp [Builtin.append_, run_underlying ht, sizeOf, typeInfo, hi, hs1, Builtin.lenOf, hroom, hf, Addr.add_lit, hst, put]
theorem run_append_in_string (t u ty e : TypeId) (i : TypeInfo) (ht : P.underlying t = some (.slice e)) (hu : P.underlying u = some .string) (hi : P.info? e = some i) (hs1 : i.size = 1)
    (g off sLen sCap : Nat) (cur : Array Value) (T : TypeId) (hg : w.heap[g]? = some (.cells cur T (0, 0))) (s : ByteArray)
    (hroom : sLen + s.size ≤ sCap) (hfit : off + sLen + s.size ≤ cur.size) :
    (Builtin.append_ #[t, u] ty #[.slice (some ⟨g, off, none⟩) sLen sCap, .string s]).run P w = .ok (.slice (some ⟨g, off, none⟩) (sLen + s.size) sCap) (w.setRow g (put cur (off + sLen) (Lib.strCells s))) := by
  have hf := Lib.run_firstCells_string (P := P) w 1 s
  have hst := run_storeCells_at P g (off + sLen) T (Lib.strCells s) 0 cur w hg (by simpa [Lib.strCells_length] using hfit) (Lib.strCells_oneCell s)
  simp only [Nat.add_zero, Lib.strCells_length] at hst
  simp [Builtin.append_, run_underlying ht, run_underlying hu, sizeOf, typeInfo, hi, hs1, Builtin.lenOf, hroom, hf, Addr.add_lit, hst, put, Lib.strCells_length]
end
theorem info5r : (Tryd.prog.info? 5).map (fun i => (i.zero, i.size, i.bytes)) = some (some (.int .u8 0), 1, 1) := by kernel_rfl

set_option maxRecDepth 100000 in
set_option maxHeartbeats 4000000 in
theorem appendUint76_small (g off k cap u : Nat) (hu : u < 100) (cur : Array Value) (T : TypeId) (w : World) (hk : k + 20 ≤ cap) (hc : off + cap ≤ cur.size) (hb : cap ≤ 1048576) (hg : w.heap[g]? = some (.cells cur T (0, 0))) :
    Calls Tryd.prog 65 #[.slice (some ⟨g, off, none⟩) k cap, .int .u64 u, .int .i64 10] w fun e w' => e = .returned (.slice (some ⟨g, off, none⟩) (k + (Lib.decDigits u).length) cap) ∧ w'.heap[g]? = some (.cells (put cur (off + k) (Lib.byteCells (Lib.decDigits u))) T (0, 0)) ∧ Ex g w.heap.size w w' := by
  have C80 := hid (Any.internal_strconv_small { Tryd.aiL with } u hu w : Calls Tryd.prog 66 #[.int .i64 u] w fun e w' => e = .returned (.string ⟨(Lib.decDigits u).toArray⟩) ∧ w' = w)
  obtain ⟨i0, hi, hz⟩ := Option.map_eq_some_iff.1 info5r
  simp only [Prod.mk.injEq] at hz
  have hl1 : (Lib.decDigits u).length ≤ 20 := by
    rw [Lib.decDigits_length]
    by_cases h10 : u < 10
    · rw [Lib.nDigits_small h10]; omega
    · rw [Lib.nDigits_big h10, Lib.nDigits_small (show u / 10 < 10 by omega)]; omega
  have hsz : (⟨(Lib.decDigits u).toArray⟩ : ByteArray).size = (Lib.decDigits u).length := by simp [ByteArray.size]
  have hrun := run_append_in_string (P := Tryd.prog) w 23 9 23 5 i0 Tryd.underlying23 Tryd.underlying9 hi hz.2.1 g off k cap cur T hg ⟨(Lib.decDigits u).toArray⟩ (by rw [hsz]; omega) (by rw [hsz]; omega)
  rw [hsz] at hrun
  have HR := hid hrun
  have HG := hid hg
  have hu' : (u : Int) < 100 := by omega
  clear hrun hg hi hz
  go_enter Tryd.func65, Tryd.ntmps65
  go_wp2_with (first
    | (go_at_call 66; refine C80.out.mono ?_; clear C80; rintro e w' ⟨rfl, hw'⟩; obtain rfl := hw'.symm)
    | (at_builtin; refine wpList_append_run rfl (.tmp 13) (.tmp 16) 23 9 rfl rfl rfl HR.out ?_))
  go_ret
  exact ⟨rfl, setRow_heap w g cur _ T (0, 0) HG.out, Ex.setRow _ _ _ _⟩

set_option maxRecDepth 100000 in
set_option maxHeartbeats 8000000 in
theorem appendUint76_big (g off k cap u : Nat) (hu : 100 ≤ u) (hu64 : u < 18446744073709551616) (cur : Array Value) (T : TypeId) (w : World) (hk : k + 20 ≤ cap) (hc : off + cap ≤ cur.size) (hb : cap ≤ 1048576) (hg : w.heap[g]? = some (.cells cur T (0, 0)))
    (htab : Lib.TabIs Tryd.prog w "internal/strconv.uint64pow10" .u64 Lib.pow10Tab) :
    Calls Tryd.prog 65 #[.slice (some ⟨g, off, none⟩) k cap, .int .u64 u, .int .i64 10] w fun e w' => e = .returned (.slice (some ⟨g, off, none⟩) (k + (Lib.decDigits u).length) cap) ∧ w'.heap[g]? = some (.cells (put cur (off + k) (Lib.byteCells (Lib.decDigits u))) T (0, 0)) ∧ Ex g w.heap.size w w' := by
  have hu1 : 1 ≤ u := by omega
  have hnd : Lib.nDigits u ≤ 20 := by have := Lib.numDigits_eq u hu1 hu64; split at this <;> omega
  obtain ⟨i0, hi, hz9⟩ := Option.map_eq_some_iff.1 info5r
  simp only [Prod.mk.injEq] at hz9
  have hgl : g < w.heap.size := (Array.getElem?_eq_some_iff.1 hg).1
  have hz := Lib.holds_zero0 w 93 (Lib.nDigits u) (by omega)
  have C81 := hid (Any.internal_strconv_numDigits { Tryd.aiL with } u hu1 hu64 _ (Lib.tabIs_alloc htab (.cells Lib.zeros24 93)))
  have C82 := hid (Any.internal_strconv_formatBase10 { Tryd.aiL with } w.heap.size 0 24 u (Array.replicate (Lib.nDigits u) 0) (w.alloc (.cells Lib.zeros24 93)) hz (by rw [Array.size_replicate]; exact Lib.lt_pow_nDigits u) hu64 (by rw [Array.size_replicate]; omega))
  have hfmt : Calls Tryd.prog 68 #[.slice (some ⟨w.heap.size, 0, none⟩) (Lib.nDigits u) 24, .int .u64 u] (w.alloc (.cells Lib.zeros24 93)) fun e w' => e = .returned (.tuple #[]) ∧ Below w.heap.size w w' ∧
      ∀ j v, (Lib.byteCells (Lib.decDigits u))[j]? = some v → w'.cell? ((⟨w.heap.size, 0, none⟩ : Addr).add j) = some v := by
    have C := C82.out
    rw [Array.size_replicate] at C
    refine C.mono ?_
    rintro e w' ⟨rfl, k, v', dk, rfl, hF⟩
    refine ⟨rfl, ?_, fun j v hj => ?_⟩
    · obtain ⟨os, eo⟩ := Lib.fin_at w (.cells Lib.zeros24 93) dk k 0
      rw [eo]
      exact Lib.below_grow _ w (Nat.le_refl _) k os
    · have hjl : j < (Lib.decDigits u).length := by
        have h5 := (List.getElem?_eq_some_iff.1 hj).1
        rwa [Lib.byteCells_length] at h5
      have e5 : (Lib.byteCells (Lib.decDigits u))[j]? = some (Value.int .u8 ((Lib.decDigits u)[j].toNat : Int)) := by simp [Lib.byteCells, hjl]
      rw [e5] at hj
      cases hj
      rw [Lib.row_is_numeral hF j hjl, Lib.add_plain, World.cell?_drewN]
      exact Go.Sort.cell?_putRow (fun (b : UInt8) => Value.int .u8 (b.toNat : Int)) _ w.heap.size 0 _ dk hz (by rw [hF.size, Array.size_replicate]) j (by rw [hF.size]; rw [Lib.decDigits_length] at hjl; exact hjl)
  have HF := hid hfmt
  have HG := hid hg
  have hu' : ¬ (u : Int) < 100 := by omega
  have hal : Tryd.prog.arrayLen 93 = 24 := by kernel_rfl
  have hsl : ∀ W, (Instr.sliceAt 93 (.pointer (some ⟨w.heap.size, 0, none⟩)) none (some (.int .i64 (Lib.nDigits u : Int))) none).run Tryd.prog W = .ok (.slice (some ⟨w.heap.size, 0, none⟩) (Lib.nDigits u) 24) W := fun W => by
    rw [run_sliceAt_array_h W 93 ⟨w.heap.size, 0, none⟩ (by kernel_rfl) .i64 (Lib.nDigits u : Int) (by omega) (by rw [hal]; omega), hal]
    go_simp
  have hdl : (Lib.decDigits u).length = Lib.nDigits u := Lib.decDigits_length u
  have AR := hid (fun (W2 : World) (hb2 : Below w.heap.size w W2) (hc2 : ∀ j v, (Lib.byteCells (Lib.decDigits u))[j]? = some v → W2.cell? ((⟨w.heap.size, 0, none⟩ : Addr).add j) = some v) =>
    run_append_in (P := Tryd.prog) W2 23 23 5 i0 Tryd.underlying23 hi hz9.2.1 g off k cap cur T ((hb2.block g hgl).trans hg) ⟨w.heap.size, 0, none⟩ (Lib.nDigits u) 24 (Lib.byteCells (Lib.decDigits u)) (by rw [Lib.byteCells_length, hdl]) hc2 (by intro v hv; simp only [Lib.byteCells, List.mem_map] at hv; obtain ⟨b, _, rfl⟩ := hv; rfl) (by omega) (by omega))
  rw [hdl]
  generalize hnu : Lib.nDigits u = nd at C81 HF hsl hnd AR hdl
  clear hfmt hg hz C82 hal hnu
  go_enter Tryd.func65, Tryd.ntmps65
  go_wp2_with (first
    | (go_at_call 67; refine C81.out.mono ?_; clear C81; rintro e w' ⟨rfl, hw'⟩; obtain rfl := hw'.symm)
    | (go_at_call 68; refine HF.out.mono ?_; clear HF; rintro e W2 ⟨rfl, hb2, hc2⟩; have HR := hid (AR.out W2 hb2 hc2); replace hb2 := hid hb2; clear hc2 AR)
    | (at_builtin; refine wpList_append_run rfl (.tmp 24) (.tmp 26) 23 23 rfl rfl rfl HR.out ?_))
  go_ret
  exact ⟨rfl, setRow_heap W2 g cur _ T (0, 0) ((hb2.out.block g hgl).trans HG.out), (Ex.of_below hb2.out).trans (Ex.setRow _ _ _ _)⟩

theorem appendUint76 (g off k cap u : Nat) (hu64 : u < 18446744073709551616) (cur : Array Value) (T : TypeId) (w : World) (hk : k + 20 ≤ cap) (hc : off + cap ≤ cur.size) (hb : cap ≤ 1048576) (hg : w.heap[g]? = some (.cells cur T (0, 0)))
    (htab : Lib.TabIs Tryd.prog w "internal/strconv.uint64pow10" .u64 Lib.pow10Tab) :
    Calls Tryd.prog 65 #[.slice (some ⟨g, off, none⟩) k cap, .int .u64 u, .int .i64 10] w fun e w' => e = .returned (.slice (some ⟨g, off, none⟩) (k + (Lib.decDigits u).length) cap) ∧ w'.heap[g]? = some (.cells (put cur (off + k) (Lib.byteCells (Lib.decDigits u))) T (0, 0)) ∧ Ex g w.heap.size w w' := by
  by_cases h : u < 100
  · exact appendUint76_small g off k cap u h cur T w hk hc hb hg
  · exact appendUint76_big g off k cap u (by omega) hu64 cur T w hk hc hb hg htab

set_option maxRecDepth 100000 in
set_option maxHeartbeats 4000000 in
theorem appendInt67 (g off cap : Nat) (n : Int) (h0 : -9223372036854775808 ≤ n) (h1 : n ≤ 9223372036854775807) (cur : Array Value) (T : TypeId) (base : Nat) (w0 w : World) (hB : Below base w0 w) (hbg : base ≤ g) (hk : 21 ≤ cap) (hc : off + cap ≤ cur.size) (hb : cap ≤ 1048576) (hg : w.heap[g]? = some (.cells cur T (0, 0)))
    (htab : Lib.TabBelow Tryd.prog base w0 "internal/strconv.uint64pow10" .u64 Lib.pow10Tab) :
    Calls Tryd.prog 60 #[.slice (some ⟨g, off, none⟩) 0 cap, .int .i64 n, .int .i64 10] w fun e w' => e = .returned (.slice (some ⟨g, off, none⟩) (Lib.itoa n).length cap) ∧ w'.heap[g]? = some (.cells (put cur off (Lib.byteCells (Lib.itoa n))) T (0, 0)) ∧ Ex g w.heap.size w w' := by
  obtain ⟨i0, hi, hz9⟩ := Option.map_eq_some_iff.1 info5r
  simp only [Prod.mk.injEq] at hz9
  have hgl : g < w.heap.size := (Array.getElem?_eq_some_iff.1 hg).1
  by_cases hneg : n < 0
  · obtain ⟨u, rfl⟩ : ∃ u : Nat, n = -(u : Int) := ⟨n.natAbs, by omega⟩
    have hu1 : 1 ≤ u := by omega
    have hu64 : u < 18446744073709551616 := by omega
    have hwr : IntKind.u64.wrap (-IntKind.u64.wrap (-(u : Int))) = (u : Int) := by rw [IntKind.wrap_u64, IntKind.wrap_u64]; omega
    rw [Lib.itoa_neg u hu1]
    obtain ⟨W1, hW1⟩ : ∃ W1, w.alloc (.cells #[.int .u8 45] 5) = W1 := ⟨_, rfl⟩
    have hM : W1.heap[w.heap.size]? = some (.cells #[.int .u8 45] 5 (0, 0)) := by rw [← hW1]; exact heap_alloc_new _ _
    have b1 : Below w.heap.size w W1 := by rw [← hW1]; exact below_box _ _
    have hg1 := (b1.block g hgl).trans hg
    have hrun := run_append_in (P := Tryd.prog) W1 23 23 5 i0 Tryd.underlying23 hi hz9.2.1 g off 0 cap cur T hg1 ⟨w.heap.size, 0, none⟩ 1 1 [.int .u8 45] rfl (fun j v hj => by
      match j, hj with
      | 0, hj => simp at hj; subst hj; rw [show (⟨w.heap.size, 0, none⟩ : Addr).add 0 = ⟨w.heap.size, 0, none⟩ from rfl, row_cell hM 0]; rfl
      | j + 1, hj => simp at hj) (by intro v hv; simp at hv; subst hv; rfl) (by omega) (by omega)
    rw [← hW1] at hrun
    have x1 : Ex g w.heap.size w (W1.setRow g (put cur (off + 0) [.int .u8 45])) := (Ex.of_below b1).trans (Ex.setRow _ _ _ _)
    have hg2 := setRow_heap W1 g cur (put cur (off + 0) [.int .u8 45]) T (0, 0) hg1
    have B2 : Below base w0 (W1.setRow g (put cur (off + 0) [.int .u8 45])) := hB.trans ((x1.mono (Nat.le_trans hbg (Nat.le_of_lt hgl))).below hbg)
    rw [hW1] at hrun
    generalize W1.setRow g (put cur (off + 0) [.int .u8 45]) = W2 at hrun x1 hg2 B2
    have C76 := hid (appendUint76 g off 1 cap u hu64 (put cur (off + 0) [.int .u8 45]) T W2 (by omega) (by rw [put_size _ _ _ (by simp; omega)]; exact hc) hb hg2 (htab W2 B2))
    have HP := hid (show put (put cur (off + 0) [.int .u8 45]) (off + 1) (Lib.byteCells (Lib.decDigits u)) = put cur off (Lib.byteCells (45 :: Lib.decDigits u)) by
      have := put_put cur off [.int .u8 45] (Lib.byteCells (Lib.decDigits u)) (by simp; omega)
      rw [Nat.add_zero]
      rw [show [Value.int .u8 45].length = 1 from rfl] at this
      rw [this]
      rfl)
    rw [HP.out] at C76
    have HR := hid hrun
    have HX := hid x1
    clear hrun x1 hg2 B2 hg1 b1 hM hg hi hz9 HP
    go_enter Tryd.func60, Tryd.ntmps60
    go_wp2_with (first
      | (at_builtin; refine wpList_append_run rfl (.tmp 12) (.tmp 13) 23 23 rfl rfl rfl HR.out ?_)
      | (go_at_call 65; refine C76.out.mono ?_; clear C76; rintro e W3 ⟨rfl, hg3, hx3⟩; have HG3 := hid hg3; have HX3 := hid hx3; clear hg3 hx3))
    go_ret
    exact ⟨congrArg (fun z => Ending.returned (.slice (some ⟨g, off, none⟩) z cap)) (Nat.add_comm 1 _), HG3.out, HX.out.trans (HX3.out.mono HX.out.size)⟩
  · obtain ⟨u, rfl⟩ : ∃ u : Nat, n = u := ⟨n.toNat, by omega⟩
    have hu64 : u < 18446744073709551616 := by omega
    rw [Lib.itoa_nonneg]
    have C76 := hid (appendUint76 g off 0 cap u hu64 cur T w (by omega) hc hb hg (htab w hB))
    rw [Nat.zero_add, Nat.add_zero] at C76
    clear hg hi hz9
    go_enter Tryd.func60, Tryd.ntmps60
    go_wp2_with (first
      | (go_at_call 65; refine C76.out.mono ?_; clear C76; rintro e W3 ⟨rfl, hg3, hx3⟩; have HG3 := hid hg3; have HX3 := hid hx3; clear hg3 hx3))
    go_ret
    exact ⟨rfl, HG3.out, HX3.out⟩
set_option maxHeartbeats 2000000 in
theorem appendInt57 (g off cap : Nat) (n : Int) (h0 : -9223372036854775808 ≤ n) (h1 : n ≤ 9223372036854775807) (cur : Array Value) (T : TypeId) (base : Nat) (w0 w : World) (hB : Below base w0 w) (hbg : base ≤ g) (hk : 21 ≤ cap) (hc : off + cap ≤ cur.size) (hb : cap ≤ 1048576) (hg : w.heap[g]? = some (.cells cur T (0, 0)))
    (htab : Lib.TabBelow Tryd.prog base w0 "internal/strconv.uint64pow10" .u64 Lib.pow10Tab) :
    Calls Tryd.prog 50 #[.slice (some ⟨g, off, none⟩) 0 cap, .int .i64 n, .int .i64 10] w fun e w' => e = .returned (.slice (some ⟨g, off, none⟩) (Lib.itoa n).length cap) ∧ w'.heap[g]? = some (.cells (put cur off (Lib.byteCells (Lib.itoa n))) T (0, 0)) ∧ Ex g w.heap.size w w' := by
  have C := hid (appendInt67 g off cap n h0 h1 cur T base w0 w hB hbg hk hc hb hg htab)
  clear hg htab hB
  go_enter Tryd.func50, Tryd.ntmps50
  go_wp2_with (first
    | (go_at_call 60; refine C.out.mono ?_; clear C; rintro e W3 ⟨rfl, hg3, hx3⟩; have HG3 := hid hg3; have HX3 := hid hx3; clear hg3 hx3))
  go_ret
  exact ⟨rfl, HG3.out, HX3.out⟩
end Go.Proofs.YtmgeoeajnpnadaaDoor
