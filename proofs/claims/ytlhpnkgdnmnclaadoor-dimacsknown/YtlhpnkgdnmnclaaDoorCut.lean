/- Cutting a text at its first line's end; a number with a sign. -/
import Derived.Test.YtlhpnkgdnmnclaaDoorLeaf
import Derived.Test.YtlhpnkgdnmnclaaDoorShelf
import Derived.Lib.QuietBelow
namespace Dim

theorem cut_cons (c : Int) (cs : List Int) : cutL (c :: cs) = (if c = 10 then [] else c :: cutL cs) ∧ cutR (c :: cs) = (if c = 10 then cs else cutR cs) := by
  unfold cutL cutR
  by_cases h : c = 10 <;> simp [h]
theorem cut_without (xs : List Int) (h : (10 : Int) ∉ xs) : cutL xs = xs ∧ cutR xs = [] := by
  induction xs with
  | nil => simp [cutL, cutR]
  | cons c cs ih =>
    have h1 : c ≠ 10 := fun e => h (by simp [e])
    have h2 := ih (fun hm => h (List.mem_cons_of_mem _ hm))
    rw [(cut_cons c cs).1, (cut_cons c cs).2, if_neg h1, if_neg h1, h2.1, h2.2]
    exact ⟨rfl, rfl⟩
theorem cut_with (xs : List Int) (h : (10 : Int) ∈ xs) : xs = cutL xs ++ 10 :: cutR xs := by
  induction xs with
  | nil => cases h
  | cons c cs ih =>
    rw [(cut_cons c cs).1, (cut_cons c cs).2]
    by_cases h1 : c = 10
    · simp [h1]
    · rw [if_neg h1, if_neg h1]
      have h2 : (10 : Int) ∈ cs := by
        rcases List.mem_cons.1 h with e | e
        · exact absurd e.symm h1
        · exact e
      have := ih h2
      rw [List.cons_append, ← this]

def sgM (w : List Int) : Bool := w.head? == some 45
def sgD (w : List Int) : List Int := if sgM w then w.tail else w
def sgV (w : List Int) : Int := numV (sgD w)
def sgB (w : List Int) : Bool := isNum (sgD w) && !(sgM w && sgV w == 0)
theorem sgV_le (w : List Int) : 0 ≤ sgV w ∧ sgV w ≤ 1048577 := by unfold sgV numV sat; split <;> omega
theorem signed_no {w : List Int} (h : sgB w = false) : signed w = none := by
  unfold signed number
  unfold sgB sgV numV at h
  by_cases hm : w.head? = some 45
  · have e : sgM w = true := by simp [sgM, hm]
    simp only [sgD, e, if_true, if_pos hm] at h ⊢
    cases hn : isNum w.tail
    · simp
    · simp only [hn, if_true, Bool.true_and, Bool.not_eq_false', beq_iff_eq] at h ⊢
      have : valGo 0 w.tail = 0 := (sat_zero _).1 (by omega)
      simp [this]
  · have e : sgM w = false := by simp [sgM, hm]
    simp only [sgD, e, if_neg hm, Bool.false_and, Bool.not_false, Bool.and_true] at h ⊢
    have h' : isNum w = false := by simpa using h
    simp [h']
theorem signed_yes {w : List Int} (h : sgB w = true) : ∃ n : Nat, signed w = some (sgM w, n) ∧ sgV w = sat n := by
  unfold signed number
  unfold sgB at h
  simp only [Bool.and_eq_true, Bool.not_eq_true'] at h
  obtain ⟨h1, h2⟩ := h
  have hv : sgV w = sat (valGo 0 (sgD w)) := by unfold sgV; exact numV_yes h1
  by_cases hm : w.head? = some 45
  · have e : sgM w = true := by simp [sgM, hm]
    have ed : sgD w = w.tail := by simp [sgD, e]
    rw [e, hv] at h2
    rw [ed] at h1 hv h2
    have : valGo 0 w.tail ≠ 0 := fun h0 => by rw [h0] at h2; simp [sat] at h2
    exact ⟨valGo 0 w.tail, by simp [hm, h1, e, this], hv⟩
  · have e : sgM w = false := by simp [sgM, hm]
    have ed : sgD w = w := by simp [sgD, e]
    rw [ed] at h1 hv
    exact ⟨valGo 0 w, by simp [hm, h1, e], hv⟩

end Dim
namespace Go.Proofs.YtlhpnkgdnmnclaaDoor
open Go.RowKit
set_option linter.unusedVariables false

theorem below_drewN (B : Nat) (w : World) (q : Nat) : Below B w (w.drewN q) := ⟨rfl, rfl, rfl, Nat.le_refl _, fun _ _ => rfl⟩

theorem byte_eq {x : Int} (h0 : 0 ≤ x) (h1 : x < 256) (k : Nat) (hk : k < 256) : (UInt8.ofNat x.toNat == UInt8.ofNat k) = decide (x = k) := by
  have : UInt8.ofNat x.toNat = UInt8.ofNat k ↔ x = k := by
    constructor
    · intro h
      have := congrArg UInt8.toNat h
      simp only [UInt8.toNat_ofNat'] at this
      omega
    · rintro rfl; simp
  by_cases h : x = k
  · simp [h]
  · have h2 : UInt8.ofNat x.toNat ≠ UInt8.ofNat k := fun e => h (this.1 e)
    simp [h, h2]

theorem index10 (xs : List Int) (hb : Byt xs) : Lib.indexByte (Lib.bytesOf xs) 10 = if (10 : Int) ∈ xs then ((Dim.cutL xs).length : Int) else -1 := by
  induction xs with
  | nil => rfl
  | cons c cs ih =>
    have hc := hb c (by simp)
    have ih := ih (fun x hx => hb x (List.mem_cons_of_mem _ hx))
    have e := byte_eq hc.1 hc.2 10 (by omega)
    show Lib.indexByte (UInt8.ofNat c.toNat :: Lib.bytesOf cs) 10 = _
    unfold Lib.indexByte
    rw [show (10 : UInt8) = UInt8.ofNat 10 from rfl, e, show UInt8.ofNat 10 = (10 : UInt8) from rfl, ih, (Dim.cut_cons c cs).1]
    by_cases h : c = 10
    · simp [h]
    · have h' : (10 : Int) ≠ c := fun e => h e.symm
      by_cases hm : (10 : Int) ∈ cs
      · simp [h, h', hm]
      · simp [h, h', hm]

/-- bytes.Cut at the byte 10. -/
theorem cut46 (tb b2 : Nat) (p : Option Addr) (n c : Nat) (xs : List Int) (w : World) (hn : xs.length = n) (hx : Txt tb w p c xs) (h2 : w.cell? ⟨b2, 0, none⟩ = some (.int .u8 10)) :
    Calls Tryd.prog 46 #[.slice p n c, .slice (some ⟨b2, 0, none⟩) 1 1] w fun e w' => ∃ p1 c1 p2 c2 ok, e = .returned (.tuple #[.slice p1 (Dim.cutL xs).length c1, .slice p2 (Dim.cutR xs).length c2, .bool ok]) ∧ Txt tb w' p1 c1 (Dim.cutL xs) ∧ Txt tb w' p2 c2 (Dim.cutR xs) ∧ ∃ q, w' = w.drewN q := by
  obtain ⟨hb, hc1, hc2, hx'⟩ := hx
  have hidx : Calls Tryd.prog 52 #[.slice p n c, .slice (some ⟨b2, 0, none⟩) 1 1] w fun e w' => e = .returned (.int .i64 (if (10 : Int) ∈ xs then ((Dim.cutL xs).length : Int) else -1)) ∧ ∃ q, w' = w.drewN q := by
    rcases hx' with ⟨rfl, rfl, rfl⟩ | ⟨o, rfl, hcells⟩
    · obtain rfl : n = 0 := by simpa using hn.symm
      exact (Any.bytes_Index_one_nil Tryd.idxL b2 0 1 10 w h2).mono fun e w' h => ⟨h.1.trans (by simp), 0, h.2⟩
    · refine (Any.bytes_Index_one_at Tryd.idxL ⟨tb, o, none⟩ n c b2 0 1 xs 10 w hn (fun i hi => by rw [Go.WideShapes.add_plain]; exact hcells i (by omega)) h2).mono fun e w' h => ⟨h.1.trans ?_, 0, h.2⟩
      rw [← index10 xs hb]; rfl
  have hlen : (10 : Int) ∈ xs → (Dim.cutL xs).length + 1 + (Dim.cutR xs).length = n := fun h => by
    have := congrArg List.length (Dim.cut_with xs h)
    simp at this; omega
  refine (Any.bytes_Cut_of Tryd.cutL p (some ⟨b2, 0, none⟩) n c 1 1 _ w (by omega) ?_ ?_ (by omega) hidx).mono ?_
  · split <;> omega
  · intro h
    split at h
    · have := hlen (by assumption); rw [if_pos (by assumption)]; omega
    · omega
  · rintro e w' ⟨rfl, q, rfl⟩
    by_cases hm : (10 : Int) ∈ xs
    · have hl := hlen hm
      have hs := Dim.cut_with xs hm
      have hget : ∀ i, i < (Dim.cutR xs).length → xs.getD ((Dim.cutL xs).length + 1 + i) 0 = (Dim.cutR xs).getD i 0 := fun i hi => by
        have e1 : xs.getD ((Dim.cutL xs).length + 1 + i) 0 = (Dim.cutL xs ++ 10 :: Dim.cutR xs).getD ((Dim.cutL xs).length + 1 + i) 0 := congrArg (fun l : List Int => l.getD ((Dim.cutL xs).length + 1 + i) 0) hs
        rw [e1]
        show (Dim.cutL xs ++ 10 :: Dim.cutR xs)[(Dim.cutL xs).length + 1 + i]?.getD 0 = _
        rw [List.getElem?_append_right (by omega), show (Dim.cutL xs).length + 1 + i - (Dim.cutL xs).length = i + 1 by omega, List.getElem?_cons_succ]
        rfl
      have hgetL : ∀ i, i < (Dim.cutL xs).length → xs.getD i 0 = (Dim.cutL xs).getD i 0 := fun i hi => by
        have e1 : xs.getD i 0 = (Dim.cutL xs ++ 10 :: Dim.cutR xs).getD i 0 := congrArg (fun l : List Int => l.getD i 0) hs
        rw [e1]
        simp [List.getD, List.getElem?_append_left hi]
      have hmemL : Byt (Dim.cutL xs) := fun x hx => hb x (by rw [hs]; simp [hx])
      have hmemR : Byt (Dim.cutR xs) := fun x hx => hb x (by rw [hs]; simp [hx])
      rcases hx' with ⟨rfl, rfl, rfl⟩ | ⟨o, rfl, hcells⟩
      · cases hm
      · refine ⟨some ⟨tb, o, none⟩, c, (if c = (Dim.cutL xs).length + 1 then some ⟨tb, o, none⟩ else some ⟨tb, o + ((Dim.cutL xs).length + 1), none⟩), c - ((Dim.cutL xs).length + 1), true, ?_, ⟨hmemL, by omega, by omega, .inr ⟨o, rfl, fun i hi => ?_⟩⟩, ⟨hmemR, by omega, by omega, ?_⟩, q, rfl⟩
        · rw [if_pos hm]
          unfold Lib.cutV Lib.fromV
          rw [if_pos (by omega)]
          simp only [Int.toNat_natCast, Option.map_some]
          have : n - ((Dim.cutL xs).length + 1) = (Dim.cutR xs).length := by omega
          rw [this, Go.WideShapes.add_plain]
        · rw [← hgetL i hi]; exact hcells i (by omega)
        · by_cases hce : c = (Dim.cutL xs).length + 1
          · have h0 : Dim.cutR xs = [] := List.eq_nil_of_length_eq_zero (by omega)
            rw [if_pos hce]
            exact .inr ⟨o, rfl, fun i hi => by rw [h0] at hi; simp at hi⟩
          · rw [if_neg hce]
            refine .inr ⟨_, rfl, fun i hi => ?_⟩
            rw [← hget i hi, Nat.add_assoc]
            exact hcells _ (by omega)
    · obtain ⟨e1, e2⟩ := Dim.cut_without xs hm
      rw [e1, e2]
      refine ⟨p, c, none, 0, false, ?_, ⟨hb, hc1, hc2, ?_⟩, ⟨fun x h => (by cases h), Nat.le_refl _, by simp, .inl ⟨rfl, rfl, rfl⟩⟩, q, rfl⟩
      · rw [if_neg hm]
        unfold Lib.cutV
        rw [if_neg (by omega), hn]
        rfl
      · exact hx'

set_option maxHeartbeats 2000000 in
theorem cutLine37 (tb : Nat) (p : Option Addr) (n c : Nat) (xs : List Int) (w : World) (htb : p = none ∨ tb < w.heap.size) (hn : xs.length = n) (hx : Txt tb w p c xs) :
    Calls Tryd.prog 37 #[.slice p n c] w fun e w' => ∃ p1 c1 p2 c2, e = .returned (.tuple #[.slice p1 (Dim.cutL xs).length c1, .slice p2 (Dim.cutR xs).length c2]) ∧ Txt tb w' p1 c1 (Dim.cutL xs) ∧ Txt tb w' p2 c2 (Dim.cutR xs) ∧ Below w.heap.size w w' := by
  have h1 : Txt tb (w.alloc (.cells #[.int .u8 10] 5)) p c xs := by
    obtain ⟨h1, h2, h3, h4⟩ := hx
    refine ⟨h1, h2, h3, ?_⟩
    rcases h4 with h | ⟨o, e, hcc⟩
    · exact .inl h
    · exact .inr ⟨o, e, fun i hi => (Book.alloc none 0 w _).cell (hcc i hi) (by simp)⟩
  have H := hid (cut46 tb w.heap.size p n c xs (w.alloc (.cells #[.int .u8 10] 5)) hn h1 (by simp [World.cell?_alloc_new]))
  clear hx h1 hn
  go_enter Tryd.func37, Tryd.ntmps37
  go_wp2_with (go_at_call 46; refine H.out.mono ?_; rintro e w' ⟨p1, c1, p2, c2, ok, rfl, ht1, ht2, q, rfl⟩)
  go_ret2
  exact ⟨p1, c1, p2, c2, rfl, ht1, ht2, ((Below.refl _ w).alloc (Nat.le_refl _) _).trans (below_drewN _ _ _)⟩

theorem Txt.bytesIn {tb : Nat} {w : World} {p : Option Addr} {c : Nat} {xs : List Int} (h : Txt tb w p c xs) : Lib.BytesIn w p xs.length xs := by
  obtain ⟨_, _, _, h4⟩ := h
  intro hn
  rcases h4 with ⟨_, rfl, _⟩ | ⟨o, e, hcc⟩
  · simp at hn
  · exact ⟨tb, o, e, hcc⟩

theorem prefix45 (xs : List Int) (hb : Byt xs) : Lib.hasPrefix (Lib.bytesOf xs) (Lib.bytesOf [45]) = Dim.sgM xs := by
  cases xs with
  | nil => rfl
  | cons x r =>
    have hx := hb x (by simp)
    have e := byte_eq hx.1 hx.2 45 (by omega)
    show List.isPrefixOf (UInt8.ofNat 45 :: []) (UInt8.ofNat x.toNat :: Lib.bytesOf r) = _
    rw [List.isPrefixOf, List.isPrefixOf, Bool.and_true]
    rw [show (UInt8.ofNat 45 == UInt8.ofNat x.toNat) = (UInt8.ofNat x.toNat == UInt8.ofNat 45) from Bool.beq_comm, e]
    simp [Dim.sgM]
    rfl

theorem cutPrefix49 (tb b2 : Nat) (p : Option Addr) (n c : Nat) (xs : List Int) (w : World) (hn : xs.length = n) (hx : Txt tb w p c xs) (h2 : w.cell? ⟨b2, 0, none⟩ = some (.int .u8 45)) :
    Calls Tryd.prog 49 #[.slice p n c, .slice (some ⟨b2, 0, none⟩) 1 1] w fun e w' => ∃ p1 c1, e = .returned (.tuple #[.slice p1 (Dim.sgD xs).length c1, .bool (Dim.sgM xs)]) ∧ Txt tb w p1 c1 (Dim.sgD xs) ∧ w' = w := by
  subst hn
  refine (Any.bytes_CutPrefix_all Tryd.cpL p (some ⟨b2, 0, none⟩) xs.length c 1 1 xs [45] w rfl rfl hx.2.1 hx.bytesIn (fun _ => ⟨b2, 0, rfl, fun i hi => by obtain rfl : i = 0 := (by omega); exact h2⟩)).mono ?_
  rintro e w' ⟨rfl, rfl⟩
  rw [prefix45 xs hx.1]
  cases hm : Dim.sgM xs
  · have ed : Dim.sgD xs = xs := by simp [Dim.sgD, hm]
    rw [ed]
    refine ⟨p, c, ?_, hx, rfl⟩
    have : Lib.trimPrefixV p xs.length c xs [45] = .slice p xs.length c := by
      unfold Lib.trimPrefixV
      split
      · unfold Lib.bytesTrimPrefix
        rw [prefix45 xs hx.1, hm]
        rfl
      · rfl
    rw [this]
  · obtain ⟨x, r, rfl⟩ : ∃ x r, xs = x :: r := by
      cases xs with
      | nil => simp [Dim.sgM] at hm
      | cons x r => exact ⟨x, r, rfl⟩
    have ed : Dim.sgD (x :: r) = r := by simp [Dim.sgD, hm]
    rw [ed]
    obtain ⟨h1, h2', h3, h4⟩ := hx
    rcases h4 with ⟨_, h, _⟩ | ⟨o, rfl, hcc⟩
    · cases h
    · refine ⟨if c = 1 then some ⟨tb, o, none⟩ else some ⟨tb, o + 1, none⟩, c - 1, ?_, ⟨fun y hy => h1 y (List.mem_cons_of_mem _ hy), ?_, by simp at h3 ⊢; omega, ?_⟩, rfl⟩
      · unfold Lib.trimPrefixV Lib.bytesTrimPrefix
        rw [prefix45 (x :: r) h1, hm]
        unfold Lib.sliceFrom
        simp
      · simp at h2'; omega
      · by_cases hc1 : c = 1
        · rw [if_pos hc1]
          have h0 : r = [] := List.eq_nil_of_length_eq_zero (by simp at h2'; omega)
          exact .inr ⟨o, rfl, fun i hi => by rw [h0] at hi; simp at hi⟩
        · rw [if_neg hc1]
          refine .inr ⟨o + 1, rfl, fun i hi => ?_⟩
          have := hcc (i + 1) (by simp; omega)
          rw [Nat.add_assoc, Nat.add_comm 1 i]
          simpa using this

set_option maxHeartbeats 2000000 in
theorem signed41 (tb : Nat) (p : Option Addr) (n c : Nat) (xs : List Int) (w : World) (hn : xs.length = n) (hx : Txt tb w p c xs) :
    Calls Tryd.prog 41 #[.slice p n c] w fun e w' => e = .returned (.tuple #[.int .i64 (Dim.sgV xs), .bool (Dim.sgM xs), .bool (Dim.sgB xs)]) ∧ w' = w.alloc (.cells #[.int .u8 45] 5) := by
  have h1 : Txt tb (w.alloc (.cells #[.int .u8 45] 5)) p c xs := by
    obtain ⟨h1, h2, h3, h4⟩ := hx
    refine ⟨h1, h2, h3, ?_⟩
    rcases h4 with h | ⟨o, e, hcc⟩
    · exact .inl h
    · exact .inr ⟨o, e, fun i hi => (Book.alloc none 0 w _).cell (hcc i hi) (by simp)⟩
  have H := hid (cutPrefix49 tb w.heap.size p n c xs (w.alloc (.cells #[.int .u8 45] 5)) hn h1 (by simp [World.cell?_alloc_new]))
  clear hx h1 hn
  have hB : Dim.sgB xs = (Dim.isNum (Dim.sgD xs) && !(Dim.sgM xs && Dim.sgV xs == 0)) := rfl
  have hV : Dim.sgV xs = Dim.numV (Dim.sgD xs) := rfl
  rw [hB, hV]
  clear hB hV
  go_enter Tryd.func41, Tryd.ntmps41
  go_wp2_with (first
    | (go_at_call 49; refine H.out.mono ?_; rintro e w' ⟨p1, c1, rfl, ht1, hw'⟩; obtain rfl := hw'.symm)
    | (go_at_call 39; refine (number39 tb _ _ _ _ _ rfl ht1).mono ?_; rintro e w' ⟨rfl, hw'⟩; obtain rfl := hw'.symm))
  all_goals go_ret3
  all_goals refine ⟨?_, rfl⟩
  all_goals simp_all

end Go.Proofs.YtlhpnkgdnmnclaaDoor
