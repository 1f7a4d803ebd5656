/- Bytes as a string, and back. -/
import Derived.Test.YtmgeoeajnpnadaaParse
import Derived.Laws.BytesArg
import Derived.Lib.ConvBytes
namespace Go.Proofs.Ytmgeoeajnpnadaa
open Go.RowKit
set_option linter.unusedVariables false
set_option linter.unusedSimpArgs false

theorem to_str (W : World) (a : Option Addr) (n c : Nat) (bs : List Int) (h : Bts W a bs) (hn : bs.length = n) : (convert 26 9 (.slice a n c)).run Try.prog W = .ok (.string (strOfNums bs)) W := by
  rcases h.2 with h0 | ⟨b, off, rfl, _, hc⟩
  · rw [h0] at hn
    have hn0 : n = 0 := by simpa using hn.symm
    subst hn0
    rw [run_convert_bytes_string W 26 9 5 _ 0 c Try.underlying26 Try.underlying5 Try.underlying9, h0]
    cases a <;> simp [Conv.bytesToString, loadCells]
    all_goals rfl
  · exact run_convert_bytes_arg W 26 5 Try.underlying26 Try.underlying5 b off n c bs hn (fun i hi => hc i (by rw [hn]; exact hi)) 9 Try.underlying9
theorem str_inj {xs ys : List Int} (hx : Bin.Byt xs) (hy : Bin.Byt ys) (h : strOfNums xs = strOfNums ys) : xs = ys := by
  have h2 := congrArg (fun s => s.data.toList) h
  simp only [strOfNums_data] at h2
  have key : ∀ (xs : List Int), Bin.Byt xs → (xs.map fun n => UInt8.ofNat n.toNat).map (fun b => ((b.toNat : Nat) : Int)) = xs := by
    intro xs hx
    rw [List.map_map]
    conv => rhs; rw [← List.map_id xs]
    apply List.map_congr_left
    intro x hxm
    have := hx x hxm
    simp
    omega
  rw [← key xs hx, ← key ys hy, h2]
theorem to_bytes (W : World) (bs : List Int) (hb : Bin.Byt bs) (hl : bs.length ≤ 1000000) : ∃ cap W', (convert 9 26 (.string (strOfNums bs))).run Try.prog W = .ok (.slice (some ⟨W.heap.size, 0, none⟩) bs.length cap) W' ∧ bs.length ≤ cap ∧ cap ≤ 9223372036854775807 ∧ Below W.heap.size W W' ∧ Bts W' (some ⟨W.heap.size, 0, none⟩) bs ∧ W'.heap.size = W.heap.size + 1 := by
  have hr := Lib.run_convert_string_bytes (P := Try.prog) W 9 26 5 (strOfNums bs) Try.underlying9 Try.underlying26 Try.underlying5
  rw [strOfNums_size] at hr
  refine ⟨_, _, hr, grownCap_ge _ _ _ _, ?_, ?_, ?_, Lib.bytesWorld_size _ _ _⟩
  · have := grownCap_le_maxLen W bs.length 0 5 (by unfold maxLen; omega)
    unfold maxLen at this
    omega
  · refine ⟨rfl, rfl, rfl, ?_, fun k hk => Lib.bytesWorld_at_old _ _ _ _ hk⟩
    rw [Lib.bytesWorld_size]; omega
  · refine ⟨fun x hx => by have := hb x hx; omega, .inr ⟨W.heap.size, 0, rfl, by rw [Lib.bytesWorld_size]; omega, fun j hj => ?_⟩⟩
    rw [Nat.zero_add, Lib.bytesWorld_cell _ _ _ _ (by rw [strOfNums_size]; exact hj), strOfNums_data]
    congr 2
    have := hb bs[j] (List.getElem_mem hj)
    simp [List.getD, List.getElem?_eq_getElem hj]
    omega
/-- What Parse tells, where it is known what the bytes say. -/
theorem POut.good {w w' : World} {bs : List Int} {e : Ending} {ss : List Lra.Stp} (h : POut w bs e w') (hs : Bin.Says bs ss []) : ∃ (qs : List Q) (v : Value), qs.map (·.1) = ss ∧ e = .returned (.tuple #[v, .int .i64 0, .int .i64 0]) ∧ Mem w.heap.size w' v qs ∧ Below w.heap.size w w' := by
  rcases h with ⟨ts, rest, h1, h2, _⟩ | ⟨qs, v, h1, h2, h3, h4⟩
  · exact absurd (h1.one hs).2 h2
  · exact ⟨qs, v, (h1.one hs).1, h2, h3, h4⟩
theorem POut.bad {w w' : World} {bs : List Int} {e : Ending} {ss : List Lra.Stp} {rest : List Int} (h : POut w bs e w') (hs : Bin.Says bs ss rest) (hr : rest ≠ []) : e = .returned (.tuple #[.slice none 0 0, .int .i64 50, .int .i64 ((Bin.text ss).length : Int)]) ∧ Below w.heap.size w w' := by
  rcases h with ⟨ts, rest', h1, h2, h3, h4⟩ | ⟨qs, v, h1, _⟩
  · rw [(h1.one hs).1] at h3; exact ⟨h3, h4⟩
  · exact absurd (h1.one hs).2.symm hr
end Go.Proofs.Ytmgeoeajnpnadaa
