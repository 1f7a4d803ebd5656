/- The reader of bytes: its block, its rows; a number read. -/
import Derived.Test.YtmgeoeajnpnadaaSpec
namespace Bin
/-- A code read byte by byte. -/
def getI (i c : Nat) : Nat → List Int → Option (Nat × List Int)
  | 0, _ => none
  | _ + 1, [] => none
  | f + 1, x :: xs => if x < 128 then (if x = 0 ∧ 0 < i then none else some (c + x.toNat * 128 ^ i, xs)) else getI (i + 1) (c + (x - 128).toNat * 128 ^ i) f xs
theorem getI_get : ∀ (f i c : Nat) (xs : List Int), Byt xs → getI i c f xs = match get f xs with | none => none | some (d, r) => if d = 0 ∧ 0 < i then none else some (c + d * 128 ^ i, r) := by
  intro f
  induction f with
  | zero => intro i c xs _; rw [getI, get]
  | succ f ih =>
    intro i c xs hx
    cases xs with
    | nil => rw [getI, get]
    | cons x xs =>
      have hx0 := hx x (by simp)
      rw [getI, get]
      split
      · next hlt =>
        simp only
        by_cases h0 : x = 0
        · subst h0; simp
        · rw [if_neg (fun h => h0 h.1), if_neg (fun h => h0 (by omega))]
      · next hge =>
        rw [ih (i + 1) _ xs hx.tail]
        cases hg : get f xs with
        | none => rfl
        | some p =>
          obtain ⟨d, r⟩ := p
          simp only
          by_cases hd : d = 0
          · rw [if_pos ⟨hd, by omega⟩, if_pos hd]
          · rw [if_neg (fun h => hd h.1), if_neg hd]
            simp only
            rw [if_neg (fun h => hd (by omega))]
            congr 2
            rw [Nat.pow_succ, Nat.add_mul, Nat.add_assoc]
            congr 2
            rw [Nat.mul_comm 128 d, Nat.mul_assoc, Nat.mul_comm 128]
theorem getI_zero (xs : List Int) (h : Byt xs) : getI 0 0 9 xs = get 9 xs := by
  rw [getI_get 9 0 0 xs h]
  cases get 9 xs with
  | none => rfl
  | some p => obtain ⟨d, r⟩ := p; simp
theorem pow_le {i : Nat} (h : i ≤ 8) : 128 ^ i * 128 ≤ 9223372036854775808 := by
  have : 128 ^ i ≤ 128 ^ 8 := Nat.pow_le_pow_right (by decide) h
  omega
end Bin
namespace Go.Proofs.Ytmgeoeajnpnadaa
open Go.RowKit
set_option linter.unusedVariables false
set_option linter.unusedSimpArgs false

theorem not128 : ∀ x : Fin 256, bits BinOp.andNot IntKind.u8 ((x.val : Nat) : Int) 128 = ((x.val % 128 : Nat) : Int) := by decide +kernel
theorem off128 {x : Int} (h0 : 0 ≤ x) (h1 : x < 256) : bits BinOp.andNot IntKind.u8 x 128 = x % 128 := by
  have := not128 ⟨x.toNat, by omega⟩
  simp only at this
  rw [show x = ((x.toNat : Nat) : Int) by omega, this]
  omega
theorem or_low {c y i : Nat} (hc : c < 128 ^ i) (hy : y < 128) (hi : i ≤ 8) : bits BinOp.or IntKind.u64 (c : Int) ((y * 128 ^ i : Nat) : Int) = ((c + y * 128 ^ i : Nat) : Int) := by
  have hp := Bin.pow_le hi
  have hlt : y * 128 ^ i + 128 ^ i ≤ 128 ^ i * 128 := by
    have : (y + 1) * 128 ^ i ≤ 128 * 128 ^ i := Nat.mul_le_mul_right _ hy
    rw [Nat.add_mul, Nat.one_mul] at this
    omega
  show IntKind.u64.wrap (((BitVec.ofInt 64 (c : Int) ||| BitVec.ofInt 64 ((y * 128 ^ i : Nat) : Int)).toNat : Nat) : Int) = _
  have e : (BitVec.ofInt 64 (c : Int) ||| BitVec.ofInt 64 ((y * 128 ^ i : Nat) : Int)).toNat = c + y * 128 ^ i := by
    rw [BitVec.toNat_or, BitVec.toNat_ofInt, BitVec.toNat_ofInt]
    rw [show ((c : Int) % ((2 ^ 64 : Nat) : Int)).toNat = c by omega, show (((y * 128 ^ i : Nat) : Int) % ((2 ^ 64 : Nat) : Int)).toNat = y * 128 ^ i by omega]
    rw [show y * 128 ^ i = y <<< (7 * i) by rw [Nat.shiftLeft_eq, Nat.pow_mul]]
    rw [Nat.or_comm, ← Nat.shiftLeft_add_eq_or_of_lt (by rw [Nat.pow_mul]; exact hc), Nat.add_comm]
  rw [e, IntKind.wrap_u64]
  omega

set_option maxRecDepth 100000 in
set_option maxHeartbeats 4000000 in
theorem numberOf62 (c : Nat) (h : c ≤ 9223372036854775807) (w : World) : Calls Try.prog 62 #[.int .u64 c] w fun e w' => e = .returned (.int .i64 (Bin.numOf c)) ∧ w' = w := by
  have hw1 : IntKind.u64.wrap ((c : Int) / 2) = (c : Int) / 2 := by rw [IntKind.wrap_u64]; omega
  have hw2 : wrap64 ((c : Int) / 2) = (c : Int) / 2 := by unfold wrap64; omega
  have hq : (c : Int).tdiv 2 = (c : Int) / 2 := Int.tdiv_eq_ediv_of_nonneg (by omega)
  have hm : (c : Int).tmod 2 = (c : Int) % 2 := Int.tmod_eq_emod_of_nonneg (by omega)
  by_cases h2 : c % 2 = 1
  · have hE := hid (show Bin.numOf c = -((c : Int) / 2) by unfold Bin.numOf; rw [if_pos h2]; omega)
    have hr : (c : Int) % 2 = 1 := by omega
    clear h2
    go_enter Try.func62, Try.ntmps62
    go_wp2
    go_ret
    exact ⟨by rw [hE.out]; rfl, rfl⟩
  · have hE := hid (show Bin.numOf c = (c : Int) / 2 by unfold Bin.numOf; rw [if_neg h2]; omega)
    have hr : (c : Int) % 2 = 0 := by omega
    clear h2
    go_enter Try.func62, Try.ntmps62
    go_wp2
    go_ret
    exact ⟨by rw [hE.out]; rfl, rfl⟩
/-- A reader in block rb. -/
structure Rd (rb : Nat) (W : World) (ra : Option Addr) (rn rc : Nat) (kd id : Int) (lv hv : Value) (it : Int) : Prop where
  blk : W.heap[rb]? = some (.cells #[.slice ra rn rc, .int .u8 kd, .int .i64 id, lv, hv, .int .i64 it] 51 (0, 0))
section
variable {rb : Nat} {W : World} {ra : Option Addr} {rn rc : Nat} {kd id : Int} {lv hv : Value} {it : Int}
theorem Rd.drewN (h : Rd rb W ra rn rc kd id lv hv it) (q : Nat) : Rd rb (W.drewN q) ra rn rc kd id lv hv it := ⟨h.blk⟩
theorem Rd.items (h : Rd rb W ra rn rc kd id lv hv it) (n : Int) : Rd rb (W.setCell ⟨rb, 5, none⟩ (.int .i64 n)) ra rn rc kd id lv hv n := ⟨by
  rw [heap_set_row (k := 5) h.blk (.int .i64 n)]; rfl⟩
theorem Rd.ids (h : Rd rb W ra rn rc kd id lv hv it) (n : Int) : Rd rb (W.setCell ⟨rb, 2, none⟩ (.int .i64 n)) ra rn rc kd n lv hv it := ⟨by
  rw [heap_set_row (k := 2) h.blk (.int .i64 n)]; rfl⟩
theorem Rd.rests (h : Rd rb W ra rn rc kd id lv hv it) (a' : Option Addr) (n' c' : Nat) : Rd rb (W.setCell ⟨rb, 0, none⟩ (.slice a' n' c')) a' n' c' kd id lv hv it := ⟨by
  rw [heap_set_row (k := 0) h.blk (.slice a' n' c')]; rfl⟩
theorem Rd.kinds (h : Rd rb W ra rn rc kd id lv hv it) (n : Int) : Rd rb (W.setCell ⟨rb, 1, none⟩ (.int .u8 n)) ra rn rc n id lv hv it := ⟨by
  rw [heap_set_row (k := 1) h.blk (.int .u8 n)]; rfl⟩
theorem Rd.lits (h : Rd rb W ra rn rc kd id lv hv it) (n : Value) : Rd rb (W.setCell ⟨rb, 3, none⟩ n) ra rn rc kd id n hv it := ⟨by
  rw [heap_set_row (k := 3) h.blk n]; rfl⟩
theorem Rd.hints (h : Rd rb W ra rn rc kd id lv hv it) (n : Value) : Rd rb (W.setCell ⟨rb, 4, none⟩ n) ra rn rc kd id lv n it := ⟨by
  rw [heap_set_row (k := 4) h.blk n]; rfl⟩
theorem Rd.cells (h : Rd rb W ra rn rc kd id lv hv it) (k : Nat) (v : Value) (hk : (#[Value.slice ra rn rc, .int .u8 kd, .int .i64 id, lv, hv, .int .i64 it])[k]? = some v) : W.cell? ⟨rb, k, none⟩ = some v := by
  rw [row_cell h.blk k, hk]
end
/-- Bytes in memory. -/
abbrev Bts := Row .u8 0 255
theorem Row.drop {k : IntKind} {lo hi : Int} {w : World} {b off : Nat} {xs : List Int} (h : Row k lo hi w (some ⟨b, off, none⟩) xs) (j : Nat) : Row k lo hi w (some ⟨b, off + j, none⟩) (xs.drop j) := by
  refine ⟨fun x hx => h.1 x (List.mem_of_mem_drop hx), ?_⟩
  rcases h.2 with h0 | ⟨b', off', e, hb, hc⟩
  · left; rw [h0]; simp
  · cases e
    right
    refine ⟨b, off + j, rfl, hb, fun i hi => ?_⟩
    rw [List.length_drop] at hi
    have := hc (j + i) (by omega)
    rw [show off + j + i = off + (j + i) by omega, this]
    simp [List.getD, List.getElem?_drop]
theorem Bts.byt {w : World} {a : Option Addr} {xs : List Int} (h : Bts w a xs) : Bin.Byt xs := fun x hx => by have := h.1 x hx; omega

/-- What reading a number does. -/
def NumTo (rb : Nat) (W : World) (b rc : Nat) (bs : List Int) (e : Ending) (w' : World) : Prop :=
  (Bin.numR bs = none ∧ ∃ (n : Int) (q : Nat) (u : Value), e = .returned (.tuple #[.int .i64 n, .bool false]) ∧ (w' = W.drewN q ∨ w' = (W.drewN q).setCell ⟨rb, 0, none⟩ u)) ∨
  (∃ (n : Int) (r : List Int) (q off' c' : Nat), Bin.numR bs = some (n, r) ∧ e = .returned (.tuple #[.int .i64 n, .bool true]) ∧ w' = (W.drewN q).setCell ⟨rb, 0, none⟩ (.slice (some ⟨b, off', none⟩) r.length c') ∧ r.length ≤ c' ∧ c' ≤ rc ∧ Bts W (some ⟨b, off', none⟩) r)
theorem numR_get {bs : List Int} {d : Nat} {r : List Int} (h : Bin.get 9 bs = some (d, r)) (h1 : d ≠ 1) : Bin.numR bs = some (Bin.numOf d, r) := by
  unfold Bin.numR
  rw [h]
  simp only
  rw [if_neg h1]
theorem numR_one {bs r : List Int} (h : Bin.get 9 bs = some (1, r)) : Bin.numR bs = none := by
  unfold Bin.numR
  rw [h]
  rfl
theorem numR_none {bs : List Int} (h : Bin.get 9 bs = none) : Bin.numR bs = none := by
  unfold Bin.numR
  rw [h]

end Go.Proofs.Ytmgeoeajnpnadaa
