/- Clauses put in order: the program's settle and Normal. -/
import Derived.Test.YthpebfojkpnojaaGreatJbl
import Derived.Shelf.SlGeneric
import Derived.Shelf.SlCmpFuncs.BinarySearchFunc
import Derived.Ground.SlsgProg
import Derived.Test.YthpebfojkpnojaaGreatProg
/- Clauses put in order: the program's settle and Normal. -/
namespace Go.Proofs.YthpebfojkpnojaaGreat.Cf
open Go.RowKit Go.Lib Go.Sort Go.Shelf
set_option linter.unusedVariables false

theorem ownsRow_grow {w : World} {base : Nat} {e : TypeId} {v : Value} {n : Nat} {xs : List Value} (h : w.ownsRow base e 1 v n xs) (os : Array Obj) : (grow w os).ownsRow base e 1 v n xs := by
  refine ⟨h.1, ?_⟩
  rcases h.2 with h2 | ⟨g, cap, cur, hv, hg, hh, r⟩
  · exact .inl h2
  · exact .inr ⟨g, cap, cur, hv, hg, by rw [heap_grow_old w os (Array.getElem?_eq_some_iff.1 hh).1]; exact hh, r⟩

theorem below_grow {B : Nat} {w0 w : World} (h : Below B w0 w) (hB : B ≤ w.heap.size) (os : Array Obj) : Below B w0 (grow w os) :=
  h.trans ⟨rfl, rfl, rfl, by simp, fun k hk => heap_grow_old w os (by omega)⟩

/-- A world that has drawn, and no more. -/
def Drawn (w w' : World) : Prop := ∃ q, w' = w.drewN q
theorem Drawn.refl (w : World) : Drawn w w := ⟨0, rfl⟩
theorem Drawn.drewN {w w' : World} (h : Drawn w w') (n : Nat) : Drawn w (w'.drewN n) := by obtain ⟨q, rfl⟩ := h; exact ⟨q + n, by rw [World.drewN_drewN]⟩
theorem Drawn.trans {w w' w'' : World} (h : Drawn w w') (k : Drawn w' w'') : Drawn w w'' := by obtain ⟨q, rfl⟩ := k; exact h.drewN q
theorem Drawn.cell {w w' : World} (h : Drawn w w') (a : Addr) : w'.cell? a = w.cell? a := by obtain ⟨q, rfl⟩ := h; rfl
theorem Drawn.below {B : Nat} {a w w' : World} (h : Drawn w w') (hb : Below B a w) : Below B a w' := by obtain ⟨q, rfl⟩ := h; exact ⟨hb.os, hb.tape, hb.output, hb.size, hb.block⟩
theorem Drawn.owns {w w' : World} (h : Drawn w w') {base : Nat} {e : TypeId} {size : Nat} {v : Value} {n : Nat} {xs : List Value} (ho : w.ownsRow base e size v n xs) : w'.ownsRow base e size v n xs := by obtain ⟨q, rfl⟩ := h; exact ho
theorem tup2 {a b c d : Value} (h1 : a = c) (h2 : b = d) : Ending.returned (.tuple #[a, b]) = .returned (.tuple #[c, d]) := by rw [h1, h2]

/-- What a slice of the call's own holds, as a row of literals. -/
theorem lits_of_own {w : World} {base : Nat} {v : Value} {n : Nat} {ys : List Int} (hb : ∀ x ∈ ys, -2147483648 ≤ x ∧ x ≤ 2147483647) (h : w.ownsRow base 66 1 v n (ys.map (Value.int .i32))) :
    ∃ a cap, v = .slice a n cap ∧ ys.length = n ∧ n ≤ cap ∧ Lits w a ys ∧ (∀ g, v.ownBlock = some g → a = some ⟨g, 0, none⟩ ∧ base ≤ g ∧ g < w.heap.size) := by
  have hl : ys.length = n := by simpa using h.1
  rcases h.2 with ⟨rfl, rfl⟩ | ⟨g, cap, cur, rfl, hbg, hg, hn, hm, hs, ht⟩
  · exact ⟨none, 0, rfl, hl, Nat.le_refl _, ⟨hb, .inl (List.eq_nil_of_length_eq_zero hl)⟩, fun g hg => by cases hg⟩
  · have hlt : g < w.heap.size := (Array.getElem?_eq_some_iff.1 hg).1
    refine ⟨_, cap, rfl, hl, hn, ⟨hb, .inr ⟨g, 0, rfl, hlt, fun j hj => ?_⟩⟩, fun g' hg' => by simp [Value.ownBlock] at hg'; subst hg'; exact ⟨rfl, hbg, hlt⟩⟩
    have e1 : (cur.toList.take (n * 1))[j]? = (ys.map (Value.int .i32))[j]? := by rw [ht]
    rw [List.getElem?_take, if_pos (by omega), Array.getElem?_toList, List.getElem?_map, List.getElem?_eq_getElem (by omega)] at e1
    simp only [World.cell?, hg, Nat.zero_add]
    simp only [Option.isSome_none, Bool.false_eq_true, if_false]
    rw [e1]
    simp [List.getD, List.getElem?_eq_getElem hj]

theorem eq38 : EqlAt Tryz.prog (Tryz.compactL_ren.t 38) Cnf.enc32 (fun x y => decide (x = y)) :=
  ⟨fun x y w => by
    have h := (EqlAt.int Tryz.prog (Tryz.compactL_ren.t 38) .i32).1 x.toInt y.toInt w
    unfold Cnf.enc32
    rw [h]
    by_cases e : x = y
    · simp [e]
    · have : x.toInt ≠ y.toInt := fun h => e (Int32.toInt_inj.1 h)
      simp [e, this], fun op a b x y w => (EqlAt.int Tryz.prog (Tryz.compactL_ren.t 38) .i32).2 op a b x.toInt y.toInt w⟩
theorem ne38 : NeqAt Tryz.prog (Tryz.compactL_ren.t 38) Cnf.enc32 (fun x y => decide (x = y)) :=
  ⟨fun x y w => by
    have h := (NeqAt.int Tryz.prog (Tryz.compactL_ren.t 38) .i32).1 x.toInt y.toInt w
    unfold Cnf.enc32
    rw [h]
    by_cases e : x = y
    · simp [e]
    · have : x.toInt ≠ y.toInt := fun h => e (Int32.toInt_inj.1 h)
      simp [e, this], fun op a b x y w => (NeqAt.int Tryz.prog (Tryz.compactL_ren.t 38) .i32).2 op a b x.toInt y.toInt w⟩

set_option maxHeartbeats 1000000 in
theorem compact70 (blk off cap : Nat) (d : Array Int32) (w : World) (hH : Holds Cnf.enc32 w blk off d) (hsz : d.size ≤ 9223372036854775807) (hcap : d.size ≤ cap) :
    Calls Tryz.prog 144 #[.slice (some ⟨blk, off, none⟩) d.size cap] w fun e w' => e = .returned (.slice (some ⟨blk, off, none⟩) (compactUpTo d d.size).length cap) ∧ ∃ q, w' = putRow Cnf.enc32 (Sort.ahead w q) blk off (compactUpTo d d.size ++ List.replicate (d.size - (compactUpTo d d.size).length) 0).toArray := by
  have h := AnyE.slices_Compact Tryz.compactL Cnf.enc32 (fun _ => rfl) eq38 ne38 0 (fun w => by kernel_rfl) blk off cap d w hH hsz hcap
  exact h

set_option maxHeartbeats 1000000 in
theorem compact70_none (p : Option Addr) (cap : Nat) (w : World) :
    Calls Tryz.prog 144 #[.slice p 0 cap] w fun e w' => e = .returned (.slice p 0 cap) ∧ w' = w := by
  go_enter Tryz.func144, Tryz.ntmps144
  go_wp2
  go_ret
  exact ⟨rfl, rfl⟩


theorem order68 (w : World) : Calls Tryz.prog 143 #[] w fun e w' => e = .returned (.func (.func 157) #[] #[]) ∧ w' = w := by
  go_enter Tryz.func143, Tryz.ntmps143
  go_wp2
  go_ret
  exact ⟨rfl, rfl⟩

set_option maxHeartbeats 2000000 in
/-- The row is put in order where it lies; runs of equals are made one; two neighbours of one variable are looked for. -/
theorem settle61_some (g cap n : Nat) (base : Nat) (xs : List Int) (w : World) (hb : ∀ x ∈ xs, -2147483648 ≤ x ∧ x ≤ 2147483647) (hn : n ≤ 1099511627776) (hbase : base ≤ w.heap.size)
    (hown : w.ownsRow base 66 1 (.slice (some ⟨g, 0, none⟩) n cap) n (xs.map (Value.int .i32))) :
    Calls Tryz.prog 119 #[.slice (some ⟨g, 0, none⟩) n cap] w fun e w' => ∃ v' ys, e = .returned (.tuple #[v', .bool (Cnf.both xs)]) ∧ Cnf.Nrm xs ys ∧ w'.ownsRow base 66 1 v' ys.length (ys.map (Value.int .i32)) ∧ Below base w w' ∧ ys.length ≤ n := by
  have hown32 : w.ownsRow base 66 1 (.slice (some ⟨g, 0, none⟩) n cap) n ((Cnf.to32 xs).map Cnf.enc32) := by rw [Cnf.enc_to32 xs hb]; exact hown
  obtain ⟨g', cap', e', hbg, hlt, hnc, hcm, hl32, hH⟩ := holds_of_ownsRow hown32 (by simp)
  simp only [Value.slice.injEq, Option.some.injEq, Addr.mk.injEq] at e'
  obtain ⟨⟨rfl, _⟩, _, rfl⟩ := e'
  have hdn : (Cnf.to32 xs).toArray.size = n := by simpa using hl32
  have hsort := sort69 g 0 cap (Cnf.to32 xs).toArray w hH hlt (by rw [hdn]; omega)
  rw [hdn] at hsort
  -- what lies behind the sort and the compaction
  have hAll : ∀ (q : Nat) (os : Array Obj) (d' : Array Int32), PermIn 0 n (Cnf.to32 xs).toArray d' → SortedIn (ltOf Cnf.cf32) 0 n d' →
      Calls Tryz.prog 144 #[.slice (some ⟨g, 0, none⟩) n cap] (sortWorld Cnf.enc32 w g 0 q d' os) fun e w2 => ∃ ys, e = .returned (.slice (some ⟨g, 0, none⟩) ys.length cap) ∧ Cnf.Nrm xs ys ∧ w2.ownsRow base 66 1 (.slice (some ⟨g, 0, none⟩) ys.length cap) ys.length (ys.map (Value.int .i32)) ∧ Below base w w2 ∧ ys.length ≤ n := by
    intro q os d' hp hs
    have hN := Cnf.nrm_compact xs hb d' (by rw [hdn]; exact hp) (by rw [hdn]; exact hs)
    have hd' : d'.size = n := by rw [hN.2]; simpa [Cnf.to32] using hl32
    have hH1 : Holds Cnf.enc32 (sortWorld Cnf.enc32 w g 0 q d' os) g 0 d' :=
      holds_grow _ _ _ _ _ _ (by simpa using hlt) (holds_putRow _ _ _ _ _ _ (holds_ahead _ _ _ _ _ _ hH) (by rw [hdn, hd']))
    have hO1 : (putRow Cnf.enc32 (Sort.ahead w q) g 0 d').ownsRow base 66 1 (.slice (some ⟨g, 0, none⟩) n cap) n ((d'.toList).map Cnf.enc32) := by
      have h := ownsRow_putRow (q := q) (ys := d'.toList) (k := n) hown32 (by simpa using hd') (Nat.le_refl _)
      rw [List.take_of_length_le (by simp; omega)] at h
      simpa using h
    have hO2 := ownsRow_grow hO1 os
    have hB1 : Below base w (sortWorld Cnf.enc32 w g 0 q d' os) := below_grow (below_putRow (Below.refl _ _) hbg) (by simpa using hbase) os
    have hc := compact70 g 0 cap d' (sortWorld Cnf.enc32 w g 0 q d' os) hH1 (by omega) (by omega)
    rw [hd'] at hc
    rw [hd'] at hN
    refine hc.mono ?_
    rintro e w2 ⟨rfl, q2, rfl⟩
    have hle : (compactUpTo d' n).length ≤ n := by
      unfold compactUpTo; rw [List.length_map]; exact Nat.le_trans (List.length_filter_le _ _) (by simp)
    refine ⟨(compactUpTo d' n).map Int32.toInt, by simp, hN.1, ?_, below_putRow hB1 hbg, by simpa using hle⟩
    have h := ownsRow_putRow (q := q2) (ys := compactUpTo d' n ++ List.replicate (n - (compactUpTo d' n).length) 0) (k := (compactUpTo d' n).length) hO2 (by simp; omega) hle
    rw [List.take_left] at h
    have e2 : ((compactUpTo d' n).map Int32.toInt).map (Value.int .i32) = (compactUpTo d' n).map Cnf.enc32 := by rw [List.map_map]; rfl
    rw [e2]
    simp only [List.length_map]
    exact h
  have HS := hid hsort
  have HA := hid hAll
  clear hsort hAll hown hown32 hH hdn hl32 hnc hcm
  go_enter Tryz.func119, Tryz.ntmps119
  go_wp2_with fail
  refine (order68 _).mono ?_
  rintro e w' ⟨rfl, rfl⟩
  go_wp2_with fail
  refine HS.out.mono ?_
  rintro e w1 ⟨rfl, q, os, d', hp, hs, rfl⟩
  have HB := HA.out q os d' hp hs
  clear hp hs HA HS
  generalize sortWorld Cnf.enc32 w' g 0 q d' os = w1 at HB
  have HB := hid HB
  go_wp2_with fail
  refine HB.out.mono ?_
  rintro e w2 ⟨ys, rfl, hN, hO, hBel, hle⟩
  clear HB
  have HN := hid hN
  have HO := hid hO
  have HBel := hid hBel
  obtain ⟨a, cap1, ev, hl, hcap1, hL, _⟩ := lits_of_own (fun x hx => hb x ((hN.2 x).1 hx)) hO
  simp only [Value.slice.injEq] at ev
  obtain ⟨rfl, _, rfl⟩ := ev
  have HL := hid hL
  clear hN hO hBel hL hl hcap1 hbase hbg hlt
  generalize hm : ys.length = m at hle HO
  have HM := hid hm
  clear hm
  go_wp2
  go_loopw [4] (fun i wr => ∃ k : Nat, 1 ≤ k ∧ (k ≤ m ∨ k = 1) ∧ i = .int .i64 k ∧ (∀ j, 1 ≤ j → j < k → Cnf.vr (ys.getD (j - 1) 0) ≠ Cnf.vr (ys.getD j 0)) ∧ Drawn w2 wr) (fun i _ => m + 1 - (intOf i).toNat)
  case atStart => exact ⟨1, Nat.le_refl _, .inr rfl, rfl, fun j h1 h2 => by omega, Drawn.refl _⟩
  case round =>
    obtain ⟨k, hk1, hk2, rfl, hno, HD⟩ := hrel
    have HNo := hid hno
    clear hno
    by_cases hlt : k < m
    · obtain ⟨b1, o1, e1, hc1, hx1, hx2⟩ := litAt HL.out (k := k - 1) (by rw [HM.out]; omega)
      obtain ⟨b2, o2, e2, hc2, hy1, hy2⟩ := litAt HL.out (k := k) (by rw [HM.out]; exact hlt)
      simp only [Option.some.injEq, Addr.mk.injEq] at e1 e2
      obtain ⟨rfl, rfl, _⟩ := e1
      obtain ⟨rfl, rfl, _⟩ := e2
      obtain ⟨j, rfl⟩ : ∃ j, k = j + 1 := ⟨k - 1, by omega⟩
      have HT : Hid (Cnf.vr (ys.getD j 0) = Cnf.vr (ys.getD (j + 1) 0) → Cnf.both xs = true) := fun e => Cnf.both_of_near HN.out (j + 1) (by omega) (by rw [HM.out]; exact hlt) e
      have HR : Hid (Cnf.vr (ys.getD j 0) ≠ Cnf.vr (ys.getD (j + 1) 0) → ∀ t, 1 ≤ t → t < j + 1 + 1 → Cnf.vr (ys.getD (t - 1) 0) ≠ Cnf.vr (ys.getD t 0)) := fun hne t h1 h2 => by
        by_cases ht : t = j + 1
        · rw [ht]; exact hne
        · exact HNo.out t h1 (by omega)
      rw [← HD.cell] at hc1 hc2
      simp only [Nat.add_sub_cancel, Nat.zero_add] at hc1 hc2 hx1 hx2
      generalize ys.getD j 0 = x at hc1 hx1 hx2 HT HR
      generalize ys.getD (j + 1) 0 = y at hc2 hy1 hy2 HT HR
      clear HNo
      have hwj : IntKind.i64.wrap (j : Int) = j := by simp [IntKind.wrap, IntKind.bits, IntKind.signed]; omega
      have hi1 : (j : Int) < (m : Int) := by omega
      have hi2 : (j : Int) + 1 < (m : Int) := by omega
      have CX : Hid (∀ W, Calls Tryz.prog 71 #[.int .i32 x] W fun e w' => e = .returned (.int .i64 (Cnf.vr x)) ∧ w' = W) := fun W => var49 x W hx1 hx2
      have CY : Hid (∀ W, Calls Tryz.prog 71 #[.int .i32 y] W fun e w' => e = .returned (.int .i64 (Cnf.vr y)) ∧ w' = W) := fun W => var49 y W hy1 hy2
      by_cases h : Cnf.vr x = Cnf.vr y
      · have hh : (Cnf.vr x == Cnf.vr y) = true := by simp [h]
        have HF : Hid (Cnf.both xs = true) := HT.out h
        clear h HT HR
        go_wp2
        go_quiet (first | (go_at_call_of 71 (Value.int .i32 x); exact Calls.quiet_of_same (CX.out _)) | (go_at_call_of 71 (Value.int .i32 y); exact Calls.quiet_of_same (CY.out _)))
        go_wp2
        go_ret2
        refine ⟨.slice (some ⟨g, 0, none⟩) m cap, ys, ?_, HN.out, ?_, ?_, by rw [HM.out]; exact hle⟩
        · rw [HF.out]; exact tup2 rfl rfl
        · rw [HM.out]; exact (HD.drewN _).owns HO.out
        · exact (HD.drewN _).below HBel.out
      · have hh : (Cnf.vr x == Cnf.vr y) = false := by simp [h]
        have HF := hid (HR.out h)
        clear h HT HR
        go_wp2
        go_quiet (first | (go_at_call_of 71 (Value.int .i32 x); exact Calls.quiet_of_same (CX.out _)) | (go_at_call_of 71 (Value.int .i32 y); exact Calls.quiet_of_same (CY.out _)))
        go_wp2
        go_roundw
        case rel => exact ⟨j + 1 + 1, by omega, by omega, by go_num, HF.out, HD.drewN _⟩
        case measure => simp [intOf]; omega
    · go_wp2
      go_ret2
      refine ⟨.slice (some ⟨g, 0, none⟩) m cap, ys, ?_, HN.out, ?_, ?_, by rw [HM.out]; exact hle⟩
      · rw [Cnf.both_false HN.out (fun t h1 h2 => HNo.out t h1 (by rw [HM.out] at h2; omega))]; exact tup2 rfl rfl
      · rw [HM.out]; exact HD.owns HO.out
      · exact HD.below HBel.out

end Go.Proofs.YthpebfojkpnojaaGreat.Cf

/- Clauses put in order: settle at every row of the call's own, and Normal at every clause. -/
namespace Go.Proofs.YthpebfojkpnojaaGreat.Cf
open Go.RowKit Go.Lib Go.Sort Go.Shelf
set_option linter.unusedVariables false

theorem info45 : (Tryz.prog.info? 66).map (fun i => (i.zero, i.size, i.bytes)) = some (some (.int .i32 0), 1, 4) := by kernel_rfl

set_option maxHeartbeats 1000000 in
theorem settle29_none (w : World) :
    Calls Tryz.prog 119 #[.slice none 0 0] w fun e w' => e = .returned (.tuple #[.slice none 0 0, .bool false]) ∧ w' = w := by
  go_enter Tryz.func119, Tryz.ntmps119
  go_wp2_with fail
  refine (order68 _).mono ?_
  rintro e w' ⟨rfl, rfl⟩
  go_wp2_with fail
  refine (sort69_none _ _ _).mono ?_
  rintro e w' ⟨rfl, rfl⟩
  go_wp2_with fail
  refine (compact70_none _ _ _).mono ?_
  rintro e w' ⟨rfl, rfl⟩
  go_wp2
  go_loop [4] (fun i => i = .int .i64 1) (fun _ => 0)
  case atStart => rfl
  case round =>
    subst hrel
    go_wp2
    go_ret2
    exact ⟨tup2 rfl rfl, rfl⟩

theorem settle61 (v : Value) (n base : Nat) (xs : List Int) (w : World) (hb : ∀ x ∈ xs, -2147483648 ≤ x ∧ x ≤ 2147483647) (hn : n ≤ 1099511627776) (hbase : base ≤ w.heap.size)
    (hown : w.ownsRow base 66 1 v n (xs.map (Value.int .i32))) :
    Calls Tryz.prog 119 #[v] w fun e w' => ∃ v' ys, e = .returned (.tuple #[v', .bool (Cnf.both xs)]) ∧ Cnf.Nrm xs ys ∧ w'.ownsRow base 66 1 v' ys.length (ys.map (Value.int .i32)) ∧ Below base w w' ∧ ys.length ≤ n := by
  rcases hown.2 with ⟨rfl, rfl⟩ | ⟨g, cap, cur, rfl, h⟩
  · have hx : xs = [] := by
      have := hown.1
      simp at this
      exact this
    subst hx
    refine (settle29_none w).mono ?_
    rintro e w' ⟨rfl, rfl⟩
    exact ⟨_, [], rfl, ⟨List.Pairwise.nil, fun x => Iff.rfl⟩, World.ownsRow_nil _ _ _ _, Below.refl _ _, Nat.le_refl _⟩
  · exact settle61_some g cap n base xs w hb hn hbase hown

/-- The cells of a row of literals, as append asks for them. -/
theorem litNews {w : World} {ad : Addr} {xs : List Int} (hx : Lits w (some ad) xs) : ∀ j u, (xs.map (Value.int .i32))[j]? = some u → w.cell? (ad.add j) = some u := by
  intro j u hj
  rw [List.getElem?_map] at hj
  cases hq : xs[j]? with
  | none => rw [hq] at hj; simp at hj
  | some y =>
    rw [hq] at hj
    simp at hj
    have hjl : j < xs.length := by
      rcases Nat.lt_or_ge j xs.length with h | h
      · exact h
      · rw [List.getElem?_eq_none h] at hq; cases hq
    obtain ⟨b, off, e, hc, _⟩ := litAt hx hjl
    simp only [Option.some.injEq] at e
    subst e
    have hadd : (⟨b, off, none⟩ : Addr).add j = ⟨b, off + j, none⟩ := by unfold Addr.add; split <;> simp_all
    rw [hadd, hc, ← hj]
    simp [List.getD, hq]
theorem lits_one (xs : List Int) : ∀ u ∈ xs.map (Value.int .i32), u.oneCell' = true := by
  intro u hu
  obtain ⟨y, _, rfl⟩ := List.mem_map.1 hu
  rfl

set_option maxHeartbeats 1000000 in
/-- Normal: the set in order, each once, in new memory; and whether a literal and its negation are in it. -/
theorem normal53 (a : Option Addr) (n cap : Nat) (xs : List Int) (w : World) (hn : xs.length = n) (hN : n ≤ 1099511627776) (hx : Lits w a xs) :
    Calls Tryz.prog 109 #[.slice a n cap] w fun e w' => ∃ v' ys, e = .returned (.tuple #[v', .bool (Cnf.both xs)]) ∧ Cnf.Nrm xs ys ∧ w'.ownsRow w.heap.size 66 1 v' ys.length (ys.map (Value.int .i32)) ∧ Below w.heap.size w w' ∧ ys.length ≤ n := by
  have hb := hx.1
  have HB : Hid (∀ x ∈ xs, -2147483648 ≤ x ∧ x ≤ 2147483647) := hb
  clear hb
  cases a with
  | none =>
    have hxs : xs = [] := by
      rcases hx.2 with h | ⟨b, off, e, _⟩
      · exact h
      · cases e
    subst hxs
    have h0 : n = 0 := by simpa using hn.symm
    subst h0
    clear hx hn
    go_enter Tryz.func109, Tryz.ntmps109
    go_wp2_with fail
    refine (settle61 _ 0 w.heap.size [] _ HB.out (by omega) (Nat.le_refl _) (World.ownsRow_nil _ _ _ _)).mono ?_
    rintro e w' ⟨v', ys, rfl, h1, h2, h3, h4⟩
    have H := hid (And.intro h1 (And.intro h2 (And.intro h3 h4)))
    clear h1 h2 h3 h4
    go_wp2
    go_ret2
    exact ⟨v', ys, tup2 rfl rfl, H.out.1, H.out.2.1, H.out.2.2.1, H.out.2.2.2⟩
  | some ad =>
    obtain ⟨i0, hi, hz0, hz1, hz2⟩ := info_parts info45
    have hlen : (xs.map (Value.int .i32)).length = n * 1 := by simp [hn]
    have HA := hid (And.intro hlen (And.intro (litNews hx) (lits_one xs)))
    clear hlen hx
    have HN := hid hn
    clear hn
    go_enter Tryz.func109, Tryz.ntmps109
    go_wp2_with (first
      | (at_builtin; refine wpList_append_own _ rfl _ _ 38 rfl w.heap.size 66 i0 (.int .i32 0) 1 4 Tryz.underlying38 hi hz0 hz1 hz2 rfl (by decide) _ _ _ rfl (World.ownsRow_nil _ _ _ _) ad n cap (xs.map (Value.int .i32)) rfl HA.out.1 HA.out.2.1 HA.out.2.2 ?c3 ?c4 ?c5 ?_))
    case c3 => unfold maxLen; omega
    case c4 => omega
    case c5 => exact Nat.le_refl _
    intro v' w1 hown' hgrow hnil'
    clear hnil'
    have hbel : Below w.heap.size w w1 := (Below.refl _ _).grown hgrow (Nat.le_refl _) (fun k hk => by cases hk)
    have hsz := hbel.size
    have HS := hid (settle61 v' n w.heap.size xs w1 HB.out hN hsz hown')
    have HBel := hid hbel
    clear hown' hgrow hbel hsz HA
    go_wp2_with fail
    refine HS.out.mono ?_
    rintro e w' ⟨v', ys, rfl, h1, h2, h3, h4⟩
    have H := hid (And.intro h1 (And.intro h2 (And.intro (HBel.out.trans h3) h4)))
    clear h1 h2 h3 h4
    go_wp2
    go_ret2
    exact ⟨v', ys, tup2 rfl rfl, H.out.1, H.out.2.1, H.out.2.2.1, H.out.2.2.2⟩

end Go.Proofs.YthpebfojkpnojaaGreat.Cf

/-
  DERIVED: THE SHELF's CONTRACTS AT THIS DUMP, IN PLAIN WORDS (tools/lay-plain.mjs out of 'YthpebfojkpnojaaShelb.lean', which tools/lay-shelf.mjs wrote): THE SAME DECLARATIONS UNDER THE SAME NAMES: 'import', 'namespace', 'open', 'def', 'theorem' AND NOTHING ELSE: no command of the shelf's: FOR A HAND-IN. Each laying: the table of numbers ('.._ren') and one theorem, a field a fact of the dump's own or the kernel's comparison; each contract: ONE APPLICATION.
-/
namespace Go.Proofs
open Go.Shelf
def Tryz.bsearchL_ren : Go.Shelf.Ren := ⟨fun | 14 => 146 | n => n, fun | 22 => 158 | 24 => 66 | 29 => 66 | 32 => 190 | 3 => 3 | 4 => 4 | 35 => 155 | 0 => 0 | n => n, fun | n => n⟩
theorem Tryz.bsearchL : Go.Proofs.SlLaysG2.n14 Tryz.prog Tryz.bsearchL_ren := {
  mixed := by kernel_rfl
  f14 := ⟨Tryz.f146.name, by decide, Tryz.func146.trans (congrArg some (by kernel_rfl))⟩
  t0 := Tryz.underlying0
  a0 := Tryz.isAgg0
  z0 := Tryz.sizeOf0
  v0 := Tryz.zeroValue0
  t3 := Tryz.underlying3
  a3 := Tryz.isAgg3
  z3 := Tryz.sizeOf3
  v3 := Tryz.zeroValue3
  t4 := Tryz.underlying4
  a4 := Tryz.isAgg4
  z4 := Tryz.sizeOf4
  v4 := Tryz.zeroValue4
  t22 := Tryz.underlying158
  a22 := Tryz.isAgg158
  z22 := Tryz.sizeOf158
  v22 := Tryz.zeroValue158
  a24 := Tryz.isAgg66
  z24 := Tryz.sizeOf66
  a29 := Tryz.isAgg66
  z29 := Tryz.sizeOf66
  t32 := Tryz.underlying190
  a32 := Tryz.isAgg190
  z32 := Tryz.sizeOf190
  v32 := Tryz.zeroValue190
  t35 := Tryz.underlying155
  a35 := Tryz.isAgg155
  z35 := Tryz.sizeOf155
  v35 := Tryz.zeroValue155 }
end Go.Proofs

